/- Package nfa. -/
import Derived.Test.YtnhfeakndofokaaProg
import Derived.Test.YtnhfeakndofokaaY36
import Derived.WalkKit
import Derived.WalkLawsBesides
import Derived.WalkSpells
import Derived.Outline
import Derived.Lib.Walk
import Derived.Lib.Hide
import Derived.Lib.Slices
import Derived.Lib.Strings
import Derived.RegionTactic
import Derived.LoopTactic
import Derived.Below
import Derived.IntWalk
import Derived.Deep.QuietTactic
import Derived.BigQuiet
import Derived.Deep.MidRow
import Derived.Maps.AppendAt
import Derived.Laws.Rows
import Derived.Laws.Tables
import Derived.Deep.WholeRow
import Derived.Deep.Cut
import Derived.Deep.CutRange
import Derived.Lib.SliceRun
import Derived.Laws.MakeOwn
import Derived.Deep.RegionLaw
import Derived.Deep.RegionLawGrows
import Derived.Deep.RegionHeld3
import Derived.RegionCalls
import Derived.Deep.RegionWith
import Derived.Deep.Light
import Derived.Laws.CopyOwn
namespace Go.Proofs.Ytnhfeakndofokaa
set_option linter.unusedSimpArgs false
set_option linter.unusedVariables false
set_option maxRecDepth 100000
open Go.RowKit
theorem lgH_one (t : RT) : LgH [t] = Lg t := by funext w; rw [LgH]
theorem lg_mk3 (u : Nat → Int) (ps : List RT) (w : List UInt8) : Lg (.mk 3 u ps) w ↔ LgR ps w := by
  rw [Lg]
  simp only [show ¬ ((3 : Int) = 0) by decide, show ¬ ((3 : Int) = 1) by decide, show ¬ ((3 : Int) = 2) by decide, if_false, if_true]
theorem lg_mk4 (u : Nat → Int) (ps : List RT) (w : List UInt8) : Lg (.mk 4 u ps) w ↔ LgC ps w := by
  rw [Lg]
  simp only [show ¬ ((4 : Int) = 0) by decide, show ¬ ((4 : Int) = 1) by decide, show ¬ ((4 : Int) = 2) by decide, show ¬ ((4 : Int) = 3) by decide, if_false, if_true]
def setT (u : Nat → Int) : RT := .mk 2 u []

theorem lg_set (u : Nat → Int) (w : List UInt8) : Lg (setT u) w ↔ ∃ c, w = [c] ∧ fOf u c.toNat = true := by
  unfold setT
  rw [Lg]
  simp only [show ¬ ((2 : Int) = 0) by decide, show ¬ ((2 : Int) = 1) by decide, if_false, if_true]


/- The document's Ends: the walks. -/
theorem cp_row (N : Nat) (f g : Nat → Bool) : ((fbA N g).toList.take 0 ++ ((fbA N f).toList ++ (fbA N g).toList.drop (0 + (fbA N f).toList.length))).toArray = fbA N f := by
  rw [List.take_zero, List.nil_append, List.drop_eq_nil_of_le (by simp [fbA]), List.append_nil]
/-- The world of Ends, its list made. -/
def EW (w : World) (N : Nat) (box : Array Value) (g : Nat → Bool) (gs : Nat) (f : Nat → Bool) (y : World) : Prop :=
  y.heap[w.heap.size]? = some (.cells box 56 (0, 0)) ∧ y.heap[w.heap.size + 1]? = some (.cells (fbA N g) 4 (0, 0)) ∧ BL N f (.slice (some ⟨gs, 0, none⟩) N N) y ∧ Below w.heap.size w y
theorem lg_mk5 (u : Nat → Int) (t : RT) (w : List UInt8) : Lg (.mk 5 u [t]) w ↔ Sta (Lg t) w := by
  rw [Lg]
  simp only [show ¬ ((5 : Int) = 0) by decide, show ¬ ((5 : Int) = 1) by decide, show ¬ ((5 : Int) = 2) by decide, show ¬ ((5 : Int) = 3) by decide, show ¬ ((5 : Int) = 4) by decide, if_false, if_true, lgH_one]
theorem lg_mk6 (u : Nat → Int) (t : RT) (w : List UInt8) : Lg (.mk 6 u [t]) w ↔ ∃ a b, w = a ++ b ∧ Lg t a ∧ Sta (Lg t) b := by
  rw [Lg]
  simp only [show ¬ ((6 : Int) = 0) by decide, show ¬ ((6 : Int) = 1) by decide, show ¬ ((6 : Int) = 2) by decide, show ¬ ((6 : Int) = 3) by decide, show ¬ ((6 : Int) = 4) by decide, show ¬ ((6 : Int) = 5) by decide, if_false, if_true, lgH_one]
theorem lg_mk7 (u : Nat → Int) (t : RT) (w : List UInt8) : Lg (.mk 7 u [t]) w ↔ w = [] ∨ Lg t w := by
  rw [Lg]
  simp only [show ¬ ((7 : Int) = 0) by decide, show ¬ ((7 : Int) = 1) by decide, show ¬ ((7 : Int) = 2) by decide, show ¬ ((7 : Int) = 3) by decide, show ¬ ((7 : Int) = 4) by decide, show ¬ ((7 : Int) = 5) by decide, show ¬ ((7 : Int) = 6) by decide, if_false, lgH_one]
theorem ed_5 (u : Nat → Int) (t : RT) (x : List UInt8) (f : Nat → Bool) : edF (.mk 5 u [t]) x f = stF t x f := edG_congr (lg_mk5 u t) x f
theorem ed_6 (u : Nat → Int) (t : RT) (x : List UInt8) (f : Nat → Bool) : edF (.mk 6 u [t]) x f = stF t x (edF t x f) := by
  unfold edF stF
  rw [edG_congr (lg_mk6 u t), ed_cat]
theorem ed_7 (u : Nat → Int) (t : RT) (x : List UInt8) (f : Nat → Bool) (j : Nat) (hj : j ≤ x.length) : edF (.mk 7 u [t]) x f j = (f j || edF t x f j) := by
  unfold edF
  rw [edG_congr (lg_mk7 u t), ed_or, ed_nil (fun w => Iff.rfl) x f j hj]
theorem ed_3_0 (u : Nat → Int) (x : List UInt8) (f : Nat → Bool) (j : Nat) (hj : j ≤ x.length) : edF (.mk 3 u []) x f j = f j := ed_nil (fun w => by rw [lg_mk3, LgR]) x f j hj
theorem ed_3_s (u : Nat → Int) (ps : List RT) (t : RT) (x : List UInt8) (f : Nat → Bool) : edF (.mk 3 u (ps ++ [t])) x f = edF t x (edF (.mk 3 u ps) x f) := by
  unfold edF
  rw [edG_congr (Q := fun w => ∃ a b, w = a ++ b ∧ Lg (.mk 3 u ps) a ∧ Lg t b) (fun w => by
    rw [lg_mk3, lgR_snoc]
    simp only [lg_mk3]) x f, ed_cat]
theorem ed_4_0 (u : Nat → Int) (x : List UInt8) (f : Nat → Bool) (j : Nat) : edF (.mk 4 u []) x f j = false := by
  rw [Bool.eq_false_iff]
  intro h
  obtain ⟨i, _, _, _, h4⟩ := edG_iff.1 h
  rw [lg_mk4, LgC] at h4
  exact h4
theorem ed_4_s (u : Nat → Int) (ps : List RT) (t : RT) (x : List UInt8) (f : Nat → Bool) (j : Nat) : edF (.mk 4 u (ps ++ [t])) x f j = (edF (.mk 4 u ps) x f j || edF t x f j) := by
  unfold edF
  rw [edG_congr (Q := fun w => Lg (.mk 4 u ps) w ∨ Lg t w) (fun w => by
    rw [lg_mk4, lgC_snoc, lg_mk4]) x f, ed_or]
theorem ed_2 (u : Nat → Int) (x : List UInt8) (f : Nat → Bool) (j : Nat) : edF (.mk 2 u []) x f j = true ↔ ∃ i, ∃ h : i < x.length, j = i + 1 ∧ f i = true ∧ fOf u (x[i]).toNat = true := by
  unfold edF
  rw [edG_iff]
  constructor
  · rintro ⟨i, h1, h2, h3, h4⟩
    rw [show RT.mk 2 u [] = setT u from rfl, lg_set] at h4
    obtain ⟨c, h5, h6⟩ := h4
    have hl := segL_len h2 h3
    rw [h5] at hl
    simp at hl
    have hi : i < x.length := by omega
    refine ⟨i, hi, by omega, h1, ?_⟩
    have e : (segL x i j)[0]? = some x[i] := by
      unfold segL
      rw [List.getElem?_take_of_lt (by omega), List.getElem?_drop, Nat.add_zero, List.getElem?_eq_getElem hi]
    rw [h5] at e
    simp at e
    rw [← e]; exact h6
  · rintro ⟨i, hi, rfl, h1, h2⟩
    refine ⟨i, h1, by omega, by omega, ?_⟩
    rw [show RT.mk 2 u [] = setT u from rfl, lg_set]
    refine ⟨x[i], ?_, h2⟩
    unfold segL
    rw [show i + 1 - i = 1 by omega, List.drop_eq_getElem_cons hi]
    rfl
set_option maxHeartbeats 8000000 in
theorem ends_0 {D : Nat → Prop} {u : Nat → Int} {ps : List RT} {x : List UInt8} {v sl : Value} {f : Nat → Bool} {w : World} (hx : x.length ≤ 900) (hD : ∀ b, D b → b < w.heap.size) (hl : ps.length ≤ 9223372036854775806) (h : RV D w (.mk 0 u ps) v) (hf : BL (x.length + 1) f sl w) :
    Calls Try.prog 59 #[v, .string (bs x), sl] w (EiP (x.length + 1) (edF (.mk 0 u ps) x f) w) := by
  obtain ⟨i0, hi, hz0, hz1, hz2⟩ := info_parts infoB
  obtain ⟨p, c, rfl, hp⟩ := h.parts
  have HP := Lib.hid hp
  obtain ⟨N, hN⟩ : ∃ N, x.length + 1 = N := ⟨_, rfl⟩
  rw [hN] at hf ⊢
  have hNi : ((x.length : Nat) : Int) + 1 = (N : Int) := by omega
  have hF := hf
  obtain ⟨gs, rfl, hgs⟩ := hf.form
  have HF := Lib.hid hF
  clear h hp hf hF
  have B0 := Lib.hid ((Below.refl w.heap.size w).alloc (Nat.le_refl _) (.cells #[.int .i64 0, .int .u64 (u 0), .int .u64 (u 1), .int .u64 (u 2), .int .u64 (u 3), .slice p ps.length c] 56))
  have X0 := Lib.hid (heap_alloc_last w (.cells #[.int .i64 0, .int .u64 (u 0), .int .u64 (u 1), .int .u64 (u 2), .int .u64 (u 3), .slice p ps.length c] 56))
  have hsw : (w.alloc (.cells #[.int .i64 0, .int .u64 (u 0), .int .u64 (u 1), .int .u64 (u 2), .int .u64 (u 3), .slice p ps.length c] 56)).heap.size = w.heap.size + 1 := by simp
  go_enter Try.func59, Try.ntmps59
  go_wp2_with (at_make; refine wpList_make_full _ rfl (.tmp 14) (.tmp 14) 71 rfl w.heap.size 4 i0 (.bool false) 1 Try.underlying71 hi hz0 hz1 .i64 .i64 _ _ N rfl rfl ?l1 ?l2 ?b2 ?b3 ?b4 ?_)
  case l1 => first | exact hNi | (simp; omega) | omega
  case l2 => first | exact hNi | (simp; omega) | omega
  case b2 => rw [hz2]; omega
  case b3 => unfold maxLen; omega
  case b4 => simp
  intro w1 hown hgrow
  first | rw [made_fb] at hown | rw [hsw, made_fb] at hown
  have HG := Lib.hid (own_fb hown)
  have HW := Lib.hid (below_grown6 (B := w.heap.size) B0.out hgrow (fun g h => by cases h) (by rw [hsw]; omega))
  have hX1 : w1.heap[w.heap.size]? = some (.cells #[.int .i64 0, .int .u64 (u 0), .int .u64 (u 1), .int .u64 (u 2), .int .u64 (u 3), .slice p ps.length c] 56 (0, 0)) := (hgrow.block _ (by rw [hsw]; omega) (fun h => by cases h)).trans X0.out
  have HE0 := Lib.hid ((⟨hX1, HG.out, HF.out.up HW.out, HW.out⟩ : EW w N #[.int .i64 0, .int .u64 (u 0), .int .u64 (u 1), .int .u64 (u 2), .int .u64 (u 3), .slice p ps.length c] (fun _ => false) gs f w1))
  clear hown hgrow HG HW hX1 X0 B0 HF
  have q0 : w1.cell? ⟨w.heap.size, 0, none⟩ = some (.int .i64 0) := cell_of_row w1 _ 0 _ 56 (0, 0) HE0.out.1
  have HR : Hid (BL N (edF (.mk 0 u ps) x f) (.slice (some ⟨w.heap.size + 1, 0, none⟩) N N) w1) := Lib.hid ⟨_, rfl, by rw [HE0.out.2.1, fbA_congr fun j _ => (ed_0 u ps x f j).symm]⟩
  go_wp2_with fail
  go_ret
  exact ⟨⟨_, rfl, HR.out⟩, HE0.out.2.2.2⟩
set_option maxHeartbeats 8000000 in
theorem ends_1 {D : Nat → Prop} {u : Nat → Int} {ps : List RT} {x : List UInt8} {v sl : Value} {f : Nat → Bool} {w : World} (hx : x.length ≤ 900) (hD : ∀ b, D b → b < w.heap.size) (hl : ps.length ≤ 9223372036854775806) (h : RV D w (.mk 1 u ps) v) (hf : BL (x.length + 1) f sl w) :
    Calls Try.prog 59 #[v, .string (bs x), sl] w (EiP (x.length + 1) (edF (.mk 1 u []) x f) w) := by
  obtain ⟨i0, hi, hz0, hz1, hz2⟩ := info_parts infoB
  obtain ⟨p, c, rfl, hp⟩ := h.parts
  have HP := Lib.hid hp
  obtain ⟨N, hN⟩ : ∃ N, x.length + 1 = N := ⟨_, rfl⟩
  rw [hN] at hf ⊢
  have hNi : ((x.length : Nat) : Int) + 1 = (N : Int) := by omega
  have hF := hf
  obtain ⟨gs, rfl, hgs⟩ := hf.form
  have HF := Lib.hid hF
  clear h hp hf hF
  have B0 := Lib.hid ((Below.refl w.heap.size w).alloc (Nat.le_refl _) (.cells #[.int .i64 1, .int .u64 (u 0), .int .u64 (u 1), .int .u64 (u 2), .int .u64 (u 3), .slice p ps.length c] 56))
  have X0 := Lib.hid (heap_alloc_last w (.cells #[.int .i64 1, .int .u64 (u 0), .int .u64 (u 1), .int .u64 (u 2), .int .u64 (u 3), .slice p ps.length c] 56))
  have hsw : (w.alloc (.cells #[.int .i64 1, .int .u64 (u 0), .int .u64 (u 1), .int .u64 (u 2), .int .u64 (u 3), .slice p ps.length c] 56)).heap.size = w.heap.size + 1 := by simp
  go_enter Try.func59, Try.ntmps59
  go_wp2_with (at_make; refine wpList_make_full _ rfl (.tmp 14) (.tmp 14) 71 rfl w.heap.size 4 i0 (.bool false) 1 Try.underlying71 hi hz0 hz1 .i64 .i64 _ _ N rfl rfl ?l1 ?l2 ?b2 ?b3 ?b4 ?_)
  case l1 => first | exact hNi | (simp; omega) | omega
  case l2 => first | exact hNi | (simp; omega) | omega
  case b2 => rw [hz2]; omega
  case b3 => unfold maxLen; omega
  case b4 => simp
  intro w1 hown hgrow
  first | rw [made_fb] at hown | rw [hsw, made_fb] at hown
  have HG := Lib.hid (own_fb hown)
  have HW := Lib.hid (below_grown6 (B := w.heap.size) B0.out hgrow (fun g h => by cases h) (by rw [hsw]; omega))
  have hX1 : w1.heap[w.heap.size]? = some (.cells #[.int .i64 1, .int .u64 (u 0), .int .u64 (u 1), .int .u64 (u 2), .int .u64 (u 3), .slice p ps.length c] 56 (0, 0)) := (hgrow.block _ (by rw [hsw]; omega) (fun h => by cases h)).trans X0.out
  have HE0 := Lib.hid ((⟨hX1, HG.out, HF.out.up HW.out, HW.out⟩ : EW w N #[.int .i64 1, .int .u64 (u 0), .int .u64 (u 1), .int .u64 (u 2), .int .u64 (u 3), .slice p ps.length c] (fun _ => false) gs f w1))
  clear hown hgrow HG HW hX1 X0 B0 HF
  have q0 : w1.cell? ⟨w.heap.size, 0, none⟩ = some (.int .i64 1) := cell_of_row w1 _ 0 _ 56 (0, 0) HE0.out.1
  obtain ⟨CS, hCS⟩ : ∃ CS, (fbA N f).toList = CS := ⟨_, rfl⟩
  obtain ⟨CU, hCU⟩ : ∃ CU, (fbA N fun _ => false).toList = CU := ⟨_, rfl⟩
  have lCS : CS.length = N := by rw [← hCS]; simp [fbA]
  have lCU : CU.length = N := by rw [← hCU]; simp [fbA]
  have hG1 : w1.heap[w.heap.size + 1]? = some (.cells CU.toArray 4 (0, 0)) := by rw [HE0.out.2.1, ← hCU]
  have hone : ∀ v ∈ CS, v.oneCell' = true := by intro v hv; rw [← hCS] at hv; simp [fbA] at hv; obtain ⟨_, _, rfl⟩ := hv; rfl
  have hsrc : ∀ j v, CS[j]? = some v → w1.cell? ((⟨gs, 0, none⟩ : Addr).add j) = some v := fun j v hv => by
    have hj : j < N := by have := (List.getElem?_eq_some_iff.1 hv).1; omega
    rw [Addr.add_mid, Nat.zero_add, HE0.out.2.2.1.cell j hj]
    rw [← hCS, Array.getElem?_toList, fbA_get N f j hj] at hv
    exact hv
  have HSRC := Lib.hid hsrc
  have HG1 := Lib.hid hG1
  have HONE := Lib.hid hone
  have HCS := Lib.hid hCS
  have HCU := Lib.hid hCU
  have lCS' := Lib.hid lCS
  have lCU' := Lib.hid lCU
  clear hsrc hG1 hone hCS hCU lCS lCU
  go_wp2_with (refine wpList_copy_splice rfl (.tmp 20) (.tmp 21) 71 71 rfl 4 Try.underlying71 (by kernel_rfl) (some ⟨w.heap.size + 1, 0, none⟩) (some ⟨gs, 0, none⟩) N N N N rfl rfl (w.heap.size + 1) 0 CU 4 HG1.out CS (lCS'.out.trans (Nat.min_self N).symm) (fun _ => ⟨rfl, _, rfl, HSRC.out⟩) (by rw [lCS'.out, lCU'.out]; omega) HONE.out (w.heap.size + 1) w1 (Below.refl _ _) (Nat.le_refl _) ?_)
  intro w2 hrow hb2
  have hsp : (splice CU 0 CS).toArray = fbA N f := by
    unfold splice
    rw [List.take_zero, List.nil_append, List.drop_eq_nil_of_le (by rw [lCS'.out, lCU'.out]; omega), List.append_nil, ← HCS.out]
  have hrow2 := hrow.out
  rw [hsp] at hrow2
  have HE1 := Lib.hid ((⟨(hb2.block w.heap.size (by omega)).trans HE0.out.1, hrow2, by
    obtain ⟨g', h1, h2⟩ := HE0.out.2.2.1
    refine ⟨g', h1, (hb2.block g' ?_).trans h2⟩
    simp only [Value.slice.injEq, Option.some.injEq, Addr.mk.injEq] at h1
    omega, HE0.out.2.2.2.trans (hb2.mono (by omega))⟩ : EW w N #[.int .i64 1, .int .u64 (u 0), .int .u64 (u 1), .int .u64 (u 2), .int .u64 (u 3), .slice p ps.length c] f gs f w2))
  clear HSRC HG1 HONE HCS HCU lCS' lCU' HE0 hrow hrow2 hb2 hsp
  have HR : Hid (BL N (edF (.mk 1 u []) x f) (.slice (some ⟨w.heap.size + 1, 0, none⟩) N N) w2) := Lib.hid ⟨_, rfl, by rw [HE1.out.2.1, fbA_congr fun j hj => (ed_1 u x f j (by omega)).symm]⟩
  clear q0
  go_wp2_with fail
  go_ret
  exact ⟨⟨_, rfl, HR.out⟩, HE1.out.2.2.2⟩
set_option maxHeartbeats 8000000 in
theorem ends_3 {D : Nat → Prop} {u : Nat → Int} {ps : List RT} {x : List UInt8} {v sl : Value} {f : Nat → Bool} {w : World} (hx : x.length ≤ 900) (hD : ∀ b, D b → b < w.heap.size) (hl : ps.length ≤ 9223372036854775806) (h : RV D w (.mk 3 u ps) v) (hf : BL (x.length + 1) f sl w) (hI : ∀ i (hi : i < ps.length), EnC D ps[i] x) :
    Calls Try.prog 59 #[v, .string (bs x), sl] w (EiP (x.length + 1) (edF (.mk 3 u ps) x f) w) := by
  obtain ⟨i0, hi, hz0, hz1, hz2⟩ := info_parts infoB
  obtain ⟨p, c, rfl, hp⟩ := h.parts
  have HP := Lib.hid hp
  obtain ⟨N, hN⟩ : ∃ N, x.length + 1 = N := ⟨_, rfl⟩
  rw [hN] at hf ⊢
  have hNi : ((x.length : Nat) : Int) + 1 = (N : Int) := by omega
  have hF := hf
  obtain ⟨gs, rfl, hgs⟩ := hf.form
  have HF := Lib.hid hF
  clear h hp hf hF
  have B0 := Lib.hid ((Below.refl w.heap.size w).alloc (Nat.le_refl _) (.cells #[.int .i64 3, .int .u64 (u 0), .int .u64 (u 1), .int .u64 (u 2), .int .u64 (u 3), .slice p ps.length c] 56))
  have X0 := Lib.hid (heap_alloc_last w (.cells #[.int .i64 3, .int .u64 (u 0), .int .u64 (u 1), .int .u64 (u 2), .int .u64 (u 3), .slice p ps.length c] 56))
  have hsw : (w.alloc (.cells #[.int .i64 3, .int .u64 (u 0), .int .u64 (u 1), .int .u64 (u 2), .int .u64 (u 3), .slice p ps.length c] 56)).heap.size = w.heap.size + 1 := by simp
  go_enter Try.func59, Try.ntmps59
  go_wp2_with (at_make; refine wpList_make_full _ rfl (.tmp 14) (.tmp 14) 71 rfl w.heap.size 4 i0 (.bool false) 1 Try.underlying71 hi hz0 hz1 .i64 .i64 _ _ N rfl rfl ?l1 ?l2 ?b2 ?b3 ?b4 ?_)
  case l1 => first | exact hNi | (simp; omega) | omega
  case l2 => first | exact hNi | (simp; omega) | omega
  case b2 => rw [hz2]; omega
  case b3 => unfold maxLen; omega
  case b4 => simp
  intro w1 hown hgrow
  first | rw [made_fb] at hown | rw [hsw, made_fb] at hown
  have HG := Lib.hid (own_fb hown)
  have HW := Lib.hid (below_grown6 (B := w.heap.size) B0.out hgrow (fun g h => by cases h) (by rw [hsw]; omega))
  have hX1 : w1.heap[w.heap.size]? = some (.cells #[.int .i64 3, .int .u64 (u 0), .int .u64 (u 1), .int .u64 (u 2), .int .u64 (u 3), .slice p ps.length c] 56 (0, 0)) := (hgrow.block _ (by rw [hsw]; omega) (fun h => by cases h)).trans X0.out
  have HE0 := Lib.hid ((⟨hX1, HG.out, HF.out.up HW.out, HW.out⟩ : EW w N #[.int .i64 3, .int .u64 (u 0), .int .u64 (u 1), .int .u64 (u 2), .int .u64 (u 3), .slice p ps.length c] (fun _ => false) gs f w1))
  clear hown hgrow HG HW hX1 X0 B0 HF
  have q0 : w1.cell? ⟨w.heap.size, 0, none⟩ = some (.int .i64 3) := cell_of_row w1 _ 0 _ 56 (0, 0) HE0.out.1
  obtain ⟨CS, hCS⟩ : ∃ CS, (fbA N f).toList = CS := ⟨_, rfl⟩
  obtain ⟨CU, hCU⟩ : ∃ CU, (fbA N fun _ => false).toList = CU := ⟨_, rfl⟩
  have lCS : CS.length = N := by rw [← hCS]; simp [fbA]
  have lCU : CU.length = N := by rw [← hCU]; simp [fbA]
  have hG1 : w1.heap[w.heap.size + 1]? = some (.cells CU.toArray 4 (0, 0)) := by rw [HE0.out.2.1, ← hCU]
  have hone : ∀ v ∈ CS, v.oneCell' = true := by intro v hv; rw [← hCS] at hv; simp [fbA] at hv; obtain ⟨_, _, rfl⟩ := hv; rfl
  have hsrc : ∀ j v, CS[j]? = some v → w1.cell? ((⟨gs, 0, none⟩ : Addr).add j) = some v := fun j v hv => by
    have hj : j < N := by have := (List.getElem?_eq_some_iff.1 hv).1; omega
    rw [Addr.add_mid, Nat.zero_add, HE0.out.2.2.1.cell j hj]
    rw [← hCS, Array.getElem?_toList, fbA_get N f j hj] at hv
    exact hv
  have HSRC := Lib.hid hsrc
  have HG1 := Lib.hid hG1
  have HONE := Lib.hid hone
  have HCS := Lib.hid hCS
  have HCU := Lib.hid hCU
  have lCS' := Lib.hid lCS
  have lCU' := Lib.hid lCU
  clear hsrc hG1 hone hCS hCU lCS lCU
  go_wp2_with (refine wpList_copy_splice rfl (.tmp 51) (.tmp 52) 71 71 rfl 4 Try.underlying71 (by kernel_rfl) (some ⟨w.heap.size + 1, 0, none⟩) (some ⟨gs, 0, none⟩) N N N N rfl rfl (w.heap.size + 1) 0 CU 4 HG1.out CS (lCS'.out.trans (Nat.min_self N).symm) (fun _ => ⟨rfl, _, rfl, HSRC.out⟩) (by rw [lCS'.out, lCU'.out]; omega) HONE.out (w.heap.size + 1) w1 (Below.refl _ _) (Nat.le_refl _) ?_)
  intro w2 hrow hb2
  have hsp : (splice CU 0 CS).toArray = fbA N f := by
    unfold splice
    rw [List.take_zero, List.nil_append, List.drop_eq_nil_of_le (by rw [lCS'.out, lCU'.out]; omega), List.append_nil, ← HCS.out]
  have hrow2 := hrow.out
  rw [hsp] at hrow2
  have HE1 := Lib.hid ((⟨(hb2.block w.heap.size (by omega)).trans HE0.out.1, hrow2, by
    obtain ⟨g', h1, h2⟩ := HE0.out.2.2.1
    refine ⟨g', h1, (hb2.block g' ?_).trans h2⟩
    simp only [Value.slice.injEq, Option.some.injEq, Addr.mk.injEq] at h1
    omega, HE0.out.2.2.2.trans (hb2.mono (by omega))⟩ : EW w N #[.int .i64 3, .int .u64 (u 0), .int .u64 (u 1), .int .u64 (u 2), .int .u64 (u 3), .slice p ps.length c] f gs f w2))
  clear HSRC HG1 HONE HCS HCU lCS' lCU' HE0 hrow hrow2 hb2 hsp
  clear q0
  have q0 : w2.cell? ⟨w.heap.size, 0, none⟩ = some (.int .i64 3) := cell_of_row w2 _ 0 _ 56 (0, 0) HE1.out.1
  have HR0 : Hid (BL N (edF (.mk 3 u (ps.take 0)) x f) (.slice (some ⟨w.heap.size + 1, 0, none⟩) N N) w2) := Lib.hid ⟨_, rfl, by rw [HE1.out.2.1, fbA_congr fun j hj => (ed_3_0 u x f j (by omega)).symm]; rfl⟩
  have HX0 := Lib.hid HE1.out.1
  have HB0 := Lib.hid HE1.out.2.2.2
  clear HE1
  go_wp2_with fail
  go_loopw [7, 10] (fun s i wr => ∃ j : Nat, j ≤ ps.length ∧ i = .int .i64 (j : Nat) ∧ Hid (BL N (edF (.mk 3 u (ps.take j)) x f) s wr) ∧ Hid (wr.heap[w.heap.size]? = some (.cells #[.int .i64 3, .int .u64 (u 0), .int .u64 (u 1), .int .u64 (u 2), .int .u64 (u 3), .slice p ps.length c] 56 (0, 0))) ∧ Hid (Below w.heap.size w wr)) (fun _ i _ => ps.length - (intOf i).toNat)
  case atStart => exact ⟨0, by omega, rfl, HR0, HX0, HB0⟩
  clear HR0 HX0 HB0 q0
  case round =>
    obtain ⟨j, hj, rfl, HR, HX, HB⟩ := hrel
    have q5 : wr.cell? ⟨w.heap.size, 5, none⟩ = some (.slice p ps.length c) := cell_of_row wr _ 5 _ 56 (0, 0) HX.out
    obtain ⟨g7, hsl, hg7⟩ := HR.out.form
    subst hsl
    by_cases hlt : j < ps.length
    · have hne : ps ≠ [] := by intro e; subst e; simp at hlt
      have hlt3 : (j : Int) < ((ps.length : Nat) : Int) := by omega
      have hwl := HB.out.size
      have hsw2 : w.heap.size < wr.heap.size := (Array.getElem?_eq_some_iff.1 HX.out).1
      obtain ⟨b, o, rfl, hDb, hx9⟩ := HP.out hne
      obtain ⟨k', u', p', n', c', hv, hcell⟩ := hx9 j hlt
      have hbw := hD b hDb
      have cc : ∀ i y, (nodeC k' u' (.slice p' n' c'))[i]? = some y → wr.cell? ⟨b, o + j * 6 + i, none⟩ = some y := fun i y hy => by
        rw [HB.out.cell (p := ⟨b, o + j * 6 + i, none⟩) hbw, ← hcell i y hy, show o + j * 6 + i = o + (6 * j + i) by omega]
      have d0 : wr.cell? ⟨b, o + j * 6, none⟩ = some (.int .i64 k') := by have h := cc 0 (.int .i64 k') rfl; simpa using h
      have d1 : wr.cell? ⟨b, o + j * 6 + 1, none⟩ = some (.int .u64 (u' 0)) := by have h := cc 1 (.int .u64 (u' 0)) rfl; simpa using h
      have d2 : wr.cell? ⟨b, o + j * 6 + 2, none⟩ = some (.int .u64 (u' 1)) := by have h := cc 2 (.int .u64 (u' 1)) rfl; simpa using h
      have d3 : wr.cell? ⟨b, o + j * 6 + 3, none⟩ = some (.int .u64 (u' 2)) := by have h := cc 3 (.int .u64 (u' 2)) rfl; simpa using h
      have d4 : wr.cell? ⟨b, o + j * 6 + 4, none⟩ = some (.int .u64 (u' 3)) := by have h := cc 4 (.int .u64 (u' 3)) rfl; simpa using h
      have d5 : wr.cell? ⟨b, o + j * 6 + 5, none⟩ = some (.slice p' n' c') := by have h := cc 5 (.slice p' n' c') rfl; simpa using h
      have HC := Lib.hid ((hI j hlt).out (.agg (nodeC k' u' (.slice p' n' c'))) (.slice (some ⟨g7, 0, none⟩) N N) (edF (.mk 3 u (ps.take j)) x f) wr (RV.mono (fun b h => h) (fun b hb _ => HB.out.block b (hD b hb)) hv) (fun b hb => Nat.lt_of_lt_of_le (hD b hb) HB.out.size) (by rw [hN]; exact HR.out))
      rw [hN] at HC
      unfold nodeC at HC
      clear hv hcell hx9 cc
      have HT : Hid (edF ps[j] x (edF (.mk 3 u (ps.take j)) x f) = edF (.mk 3 u (ps.take (j + 1))) x f) := Lib.hid (by rw [List.take_succ_eq_append_getElem hlt, ed_3_s])
      go_wp2_with fail
      refine HC.out.mono ?_
      rintro _ w7 ⟨⟨v7, rfl, hv7⟩, hb⟩
      rw [HT.out] at hv7
      have HR7 := Lib.hid hv7
      have HX7 := Lib.hid ((hb.block w.heap.size hsw2).trans HX.out)
      have HB7 := Lib.hid (HB.out.trans (hb.mono hwl))
      clear hb hv7 HC HR HX HB HT d0 d1 d2 d3 d4 d5 q5
      go_wp2_with fail
      go_roundw
      case rel => exact ⟨j + 1, by omega, by go_num, HR7, HX7, HB7⟩
      case measure => simp [intOf]; omega
    · obtain rfl : j = ps.length := by omega
      have hlt3 : ¬ ((ps.length : Nat) : Int) < ((ps.length : Nat) : Int) := by omega
      rw [List.take_length] at HR
      have q0 : wr.cell? ⟨w.heap.size, 0, none⟩ = some (.int .i64 3) := cell_of_row wr _ 0 _ 56 (0, 0) HX.out
      go_wp2_with fail
      go_ret
      exact ⟨⟨_, rfl, HR.out⟩, HB.out⟩
set_option maxHeartbeats 8000000 in
theorem ends_4 {D : Nat → Prop} {u : Nat → Int} {ps : List RT} {x : List UInt8} {v sl : Value} {f : Nat → Bool} {w : World} (hx : x.length ≤ 900) (hD : ∀ b, D b → b < w.heap.size) (hl : ps.length ≤ 9223372036854775806) (h : RV D w (.mk 4 u ps) v) (hf : BL (x.length + 1) f sl w) (hI : ∀ i (hi : i < ps.length), EnC D ps[i] x) :
    Calls Try.prog 59 #[v, .string (bs x), sl] w (EiP (x.length + 1) (edF (.mk 4 u ps) x f) w) := by
  obtain ⟨i0, hi, hz0, hz1, hz2⟩ := info_parts infoB
  obtain ⟨p, c, rfl, hp⟩ := h.parts
  have HP := Lib.hid hp
  obtain ⟨N, hN⟩ : ∃ N, x.length + 1 = N := ⟨_, rfl⟩
  rw [hN] at hf ⊢
  have hNi : ((x.length : Nat) : Int) + 1 = (N : Int) := by omega
  have hF := hf
  obtain ⟨gs, rfl, hgs⟩ := hf.form
  have HF := Lib.hid hF
  clear h hp hf hF
  have B0 := Lib.hid ((Below.refl w.heap.size w).alloc (Nat.le_refl _) (.cells #[.int .i64 4, .int .u64 (u 0), .int .u64 (u 1), .int .u64 (u 2), .int .u64 (u 3), .slice p ps.length c] 56))
  have X0 := Lib.hid (heap_alloc_last w (.cells #[.int .i64 4, .int .u64 (u 0), .int .u64 (u 1), .int .u64 (u 2), .int .u64 (u 3), .slice p ps.length c] 56))
  have hsw : (w.alloc (.cells #[.int .i64 4, .int .u64 (u 0), .int .u64 (u 1), .int .u64 (u 2), .int .u64 (u 3), .slice p ps.length c] 56)).heap.size = w.heap.size + 1 := by simp
  go_enter Try.func59, Try.ntmps59
  go_wp2_with (at_make; refine wpList_make_full _ rfl (.tmp 14) (.tmp 14) 71 rfl w.heap.size 4 i0 (.bool false) 1 Try.underlying71 hi hz0 hz1 .i64 .i64 _ _ N rfl rfl ?l1 ?l2 ?b2 ?b3 ?b4 ?_)
  case l1 => first | exact hNi | (simp; omega) | omega
  case l2 => first | exact hNi | (simp; omega) | omega
  case b2 => rw [hz2]; omega
  case b3 => unfold maxLen; omega
  case b4 => simp
  intro w1 hown hgrow
  first | rw [made_fb] at hown | rw [hsw, made_fb] at hown
  have HG := Lib.hid (own_fb hown)
  have HW := Lib.hid (below_grown6 (B := w.heap.size) B0.out hgrow (fun g h => by cases h) (by rw [hsw]; omega))
  have hX1 : w1.heap[w.heap.size]? = some (.cells #[.int .i64 4, .int .u64 (u 0), .int .u64 (u 1), .int .u64 (u 2), .int .u64 (u 3), .slice p ps.length c] 56 (0, 0)) := (hgrow.block _ (by rw [hsw]; omega) (fun h => by cases h)).trans X0.out
  have HE0 := Lib.hid ((⟨hX1, HG.out, HF.out.up HW.out, HW.out⟩ : EW w N #[.int .i64 4, .int .u64 (u 0), .int .u64 (u 1), .int .u64 (u 2), .int .u64 (u 3), .slice p ps.length c] (fun _ => false) gs f w1))
  clear hown hgrow HG HW hX1 X0 B0 HF
  have q0 : w1.cell? ⟨w.heap.size, 0, none⟩ = some (.int .i64 4) := cell_of_row w1 _ 0 _ 56 (0, 0) HE0.out.1
  have HR0 : Hid (BL N (edF (.mk 4 u (ps.take 0)) x f) (.slice (some ⟨w.heap.size + 1, 0, none⟩) N N) w1) := Lib.hid ⟨_, rfl, by rw [HE0.out.2.1, fbA_congr fun j hj => (ed_4_0 u x f j).symm]; rfl⟩
  have HX0 := Lib.hid HE0.out.1
  have HB0 := Lib.hid HE0.out.2.2.2
  have HF0 := Lib.hid HE0.out.2.2.1
  clear HE0
  go_wp2_with fail
  go_loopw [7, 11] (fun s i wr => ∃ j : Nat, j ≤ ps.length ∧ i = .int .i64 (j : Nat) ∧ Hid (BL N (edF (.mk 4 u (ps.take j)) x f) s wr) ∧ Hid (wr.heap[w.heap.size]? = some (.cells #[.int .i64 4, .int .u64 (u 0), .int .u64 (u 1), .int .u64 (u 2), .int .u64 (u 3), .slice p ps.length c] 56 (0, 0))) ∧ Hid (BL N f (.slice (some ⟨gs, 0, none⟩) N N) wr) ∧ Hid (Below w.heap.size w wr)) (fun _ i _ => ps.length - (intOf i).toNat)
  case atStart => exact ⟨0, by omega, rfl, HR0, HX0, HF0, HB0⟩
  clear HR0 HX0 HB0 HF0 q0
  case round =>
    obtain ⟨j, hj, rfl, HR, HX, HF, HB⟩ := hrel
    have q5 : wr.cell? ⟨w.heap.size, 5, none⟩ = some (.slice p ps.length c) := cell_of_row wr _ 5 _ 56 (0, 0) HX.out
    obtain ⟨g7, hsl, hg7⟩ := HR.out.form
    subst hsl
    by_cases hlt : j < ps.length
    · have hne : ps ≠ [] := by intro e; subst e; simp at hlt
      have hlt3 : (j : Int) < ((ps.length : Nat) : Int) := by omega
      have hwl := HB.out.size
      have hsw2 : w.heap.size < wr.heap.size := (Array.getElem?_eq_some_iff.1 HX.out).1
      obtain ⟨b, o, rfl, hDb, hx9⟩ := HP.out hne
      obtain ⟨k', u', p', n', c', hv, hcell⟩ := hx9 j hlt
      have hbw := hD b hDb
      have cc : ∀ i y, (nodeC k' u' (.slice p' n' c'))[i]? = some y → wr.cell? ⟨b, o + j * 6 + i, none⟩ = some y := fun i y hy => by
        rw [HB.out.cell (p := ⟨b, o + j * 6 + i, none⟩) hbw, ← hcell i y hy, show o + j * 6 + i = o + (6 * j + i) by omega]
      have d0 : wr.cell? ⟨b, o + j * 6, none⟩ = some (.int .i64 k') := by have h := cc 0 (.int .i64 k') rfl; simpa using h
      have d1 : wr.cell? ⟨b, o + j * 6 + 1, none⟩ = some (.int .u64 (u' 0)) := by have h := cc 1 (.int .u64 (u' 0)) rfl; simpa using h
      have d2 : wr.cell? ⟨b, o + j * 6 + 2, none⟩ = some (.int .u64 (u' 1)) := by have h := cc 2 (.int .u64 (u' 1)) rfl; simpa using h
      have d3 : wr.cell? ⟨b, o + j * 6 + 3, none⟩ = some (.int .u64 (u' 2)) := by have h := cc 3 (.int .u64 (u' 2)) rfl; simpa using h
      have d4 : wr.cell? ⟨b, o + j * 6 + 4, none⟩ = some (.int .u64 (u' 3)) := by have h := cc 4 (.int .u64 (u' 3)) rfl; simpa using h
      have d5 : wr.cell? ⟨b, o + j * 6 + 5, none⟩ = some (.slice p' n' c') := by have h := cc 5 (.slice p' n' c') rfl; simpa using h
      have HC := Lib.hid ((hI j hlt).out (.agg (nodeC k' u' (.slice p' n' c'))) (.slice (some ⟨gs, 0, none⟩) N N) f wr (RV.mono (fun b h => h) (fun b hb _ => HB.out.block b (hD b hb)) hv) (fun b hb => Nat.lt_of_lt_of_le (hD b hb) HB.out.size) (by rw [hN]; exact HF.out))
      rw [hN] at HC
      unfold nodeC at HC
      clear hv hcell hx9 cc
      have HT := Lib.hid fun i => ed_4_s u (ps.take j) ps[j] x f i
      rw [← List.take_succ_eq_append_getElem hlt] at HT
      go_wp2_with fail
      refine HC.out.mono ?_
      rintro _ w7 ⟨⟨v7, rfl, hv7⟩, hb⟩
      have HR7 := Lib.hid (HR.out.up hb)
      have HX7 := Lib.hid ((hb.block w.heap.size hsw2).trans HX.out)
      have HF7 := Lib.hid (HF.out.up hb)
      have HB7 := Lib.hid (HB.out.trans (hb.mono hwl))
      have HE := Lib.hid (eith5_any (by omega) HR7.out hv7)
      obtain ⟨g8, rfl, hg8⟩ := hv7.form
      have hwl7 := HB7.out.size
      have hsw7 : w.heap.size < w7.heap.size := (Array.getElem?_eq_some_iff.1 HX7.out).1
      clear hb hv7 HC HR HX HB HF d0 d1 d2 d3 d4 d5 q5
      go_wp2_with fail
      refine HE.out.mono ?_
      rintro _ w8 ⟨⟨v8, rfl, hv8⟩, hb⟩
      have HR8 := Lib.hid (hv8.congr fun i _ => (HT.out i).symm)
      have HX8 := Lib.hid ((hb.block w.heap.size hsw7).trans HX7.out)
      have HF8 := Lib.hid (HF7.out.up hb)
      have HB8 := Lib.hid (HB7.out.trans (hb.mono hwl7))
      clear hb hv8 HE HR7 HX7 HF7 HB7 HT
      go_wp2_with fail
      go_roundw
      case rel => exact ⟨j + 1, by omega, by go_num, HR8, HX8, HF8, HB8⟩
      case measure => simp [intOf]; omega
    · obtain rfl : j = ps.length := by omega
      have hlt3 : ¬ ((ps.length : Nat) : Int) < ((ps.length : Nat) : Int) := by omega
      rw [List.take_length] at HR
      have q0 : wr.cell? ⟨w.heap.size, 0, none⟩ = some (.int .i64 4) := cell_of_row wr _ 0 _ 56 (0, 0) HX.out
      go_wp2_with fail
      go_ret
      exact ⟨⟨_, rfl, HR.out⟩, HB.out⟩
set_option maxHeartbeats 8000000 in
theorem ends_7 {D : Nat → Prop} {u : Nat → Int} {ps : List RT} {x : List UInt8} {v sl : Value} {f : Nat → Bool} {w : World} (hx : x.length ≤ 900) (hD : ∀ b, D b → b < w.heap.size) (hl : ps.length ≤ 9223372036854775806) (h : RV D w (.mk 7 u ps) v) (hf : BL (x.length + 1) f sl w) (h1 : Hid (ps.length = 1)) (hI : ∀ i (hi : i < ps.length), EnC D ps[i] x) :
    Calls Try.prog 59 #[v, .string (bs x), sl] w (EiP (x.length + 1) (edF (.mk 7 u ps) x f) w) := by
  obtain ⟨i0, hi, hz0, hz1, hz2⟩ := info_parts infoB
  obtain ⟨p, c, rfl, hp⟩ := h.parts
  have HP := Lib.hid hp
  obtain ⟨N, hN⟩ : ∃ N, x.length + 1 = N := ⟨_, rfl⟩
  rw [hN] at hf ⊢
  have hNi : ((x.length : Nat) : Int) + 1 = (N : Int) := by omega
  have hF := hf
  obtain ⟨gs, rfl, hgs⟩ := hf.form
  have HF := Lib.hid hF
  clear h hp hf hF
  have B0 := Lib.hid ((Below.refl w.heap.size w).alloc (Nat.le_refl _) (.cells #[.int .i64 7, .int .u64 (u 0), .int .u64 (u 1), .int .u64 (u 2), .int .u64 (u 3), .slice p ps.length c] 56))
  have X0 := Lib.hid (heap_alloc_last w (.cells #[.int .i64 7, .int .u64 (u 0), .int .u64 (u 1), .int .u64 (u 2), .int .u64 (u 3), .slice p ps.length c] 56))
  have hsw : (w.alloc (.cells #[.int .i64 7, .int .u64 (u 0), .int .u64 (u 1), .int .u64 (u 2), .int .u64 (u 3), .slice p ps.length c] 56)).heap.size = w.heap.size + 1 := by simp
  go_enter Try.func59, Try.ntmps59
  go_wp2_with (at_make; refine wpList_make_full _ rfl (.tmp 14) (.tmp 14) 71 rfl w.heap.size 4 i0 (.bool false) 1 Try.underlying71 hi hz0 hz1 .i64 .i64 _ _ N rfl rfl ?l1 ?l2 ?b2 ?b3 ?b4 ?_)
  case l1 => first | exact hNi | (simp; omega) | omega
  case l2 => first | exact hNi | (simp; omega) | omega
  case b2 => rw [hz2]; omega
  case b3 => unfold maxLen; omega
  case b4 => simp
  intro w1 hown hgrow
  first | rw [made_fb] at hown | rw [hsw, made_fb] at hown
  have HG := Lib.hid (own_fb hown)
  have HW := Lib.hid (below_grown6 (B := w.heap.size) B0.out hgrow (fun g h => by cases h) (by rw [hsw]; omega))
  have hX1 : w1.heap[w.heap.size]? = some (.cells #[.int .i64 7, .int .u64 (u 0), .int .u64 (u 1), .int .u64 (u 2), .int .u64 (u 3), .slice p ps.length c] 56 (0, 0)) := (hgrow.block _ (by rw [hsw]; omega) (fun h => by cases h)).trans X0.out
  have HE0 := Lib.hid ((⟨hX1, HG.out, HF.out.up HW.out, HW.out⟩ : EW w N #[.int .i64 7, .int .u64 (u 0), .int .u64 (u 1), .int .u64 (u 2), .int .u64 (u 3), .slice p ps.length c] (fun _ => false) gs f w1))
  clear hown hgrow HG HW hX1 X0 B0 HF
  have hlt : 0 < ps.length := by have := h1.out; omega
  have hne : ps ≠ [] := by intro e; subst e; simp at hlt
  have q0 : w1.cell? ⟨w.heap.size, 0, none⟩ = some (.int .i64 7) := cell_of_row w1 _ 0 _ 56 (0, 0) HE0.out.1
  have q5 : w1.cell? ⟨w.heap.size, 5, none⟩ = some (.slice p ps.length c) := cell_of_row w1 _ 5 _ 56 (0, 0) HE0.out.1
  have i0 : (0 : Int) < ((ps.length : Nat) : Int) := by omega
  obtain ⟨b, o, rfl, hDb, hx9⟩ := HP.out hne
  obtain ⟨k', u', p', n', c', hv, hcell⟩ := hx9 0 hlt
  have hbw := hD b hDb
  have cc : ∀ i y, (nodeC k' u' (.slice p' n' c'))[i]? = some y → w1.cell? ⟨b, o + 0 * 6 + i, none⟩ = some y := fun i y hy => by
    rw [HE0.out.2.2.2.cell (p := ⟨b, o + 0 * 6 + i, none⟩) hbw, ← hcell i y hy, show o + 0 * 6 + i = o + (6 * 0 + i) by omega]
  have d0 : w1.cell? ⟨b, o, none⟩ = some (.int .i64 k') := by have h := cc 0 (.int .i64 k') rfl; simpa using h
  have d1 : w1.cell? ⟨b, o + 1, none⟩ = some (.int .u64 (u' 0)) := by have h := cc 1 (.int .u64 (u' 0)) rfl; simpa using h
  have d2 : w1.cell? ⟨b, o + 2, none⟩ = some (.int .u64 (u' 1)) := by have h := cc 2 (.int .u64 (u' 1)) rfl; simpa using h
  have d3 : w1.cell? ⟨b, o + 3, none⟩ = some (.int .u64 (u' 2)) := by have h := cc 3 (.int .u64 (u' 2)) rfl; simpa using h
  have d4 : w1.cell? ⟨b, o + 4, none⟩ = some (.int .u64 (u' 3)) := by have h := cc 4 (.int .u64 (u' 3)) rfl; simpa using h
  have d5 : w1.cell? ⟨b, o + 5, none⟩ = some (.slice p' n' c') := by have h := cc 5 (.slice p' n' c') rfl; simpa using h
  have HC := Lib.hid ((hI 0 hlt).out (.agg (nodeC k' u' (.slice p' n' c'))) (.slice (some ⟨gs, 0, none⟩) N N) f w1 (RV.mono (fun b h => h) (fun b hb _ => HE0.out.2.2.2.block b (hD b hb)) hv) (fun b hb => Nat.lt_of_lt_of_le (hD b hb) HE0.out.2.2.2.size) (by rw [hN]; exact HE0.out.2.2.1))
  rw [hN] at HC
  unfold nodeC at HC
  clear hv hcell hx9 cc
  have HT : Hid (∀ j, j ≤ x.length → edF (.mk 7 u ps) x f j = (f j || edF ps[0] x f j)) := Lib.hid (by obtain ⟨t, rfl⟩ := List.length_eq_one_iff.1 h1.out; exact fun j hj => ed_7 u t x f j hj)
  go_wp2_with fail
  refine HC.out.mono ?_
  rintro _ w7 ⟨⟨v7, rfl, hv7⟩, hb⟩
  have HE := Lib.hid (eith5_any (by omega) (HE0.out.2.2.1.up hb) hv7)
  have HB7 := Lib.hid (HE0.out.2.2.2.trans (hb.mono HE0.out.2.2.2.size))
  obtain ⟨g8, rfl, hg8⟩ := hv7.form
  clear hb hv7 HC HE0 q0 q5 d0 d1 d2 d3 d4 d5
  go_wp2_with fail
  refine HE.out.mono ?_
  rintro _ w8 ⟨⟨v8, rfl, hv8⟩, hb⟩
  have HR8 := Lib.hid (hv8.congr fun i hi => (HT.out i (by omega)).symm)
  have HB8 := Lib.hid (HB7.out.trans (hb.mono HB7.out.size))
  clear hb hv8 HE HB7 HT
  go_wp2_with fail
  go_ret
  exact ⟨⟨_, rfl, HR8.out⟩, HB8.out⟩
set_option maxHeartbeats 8000000 in
theorem ends_5 {D : Nat → Prop} {u : Nat → Int} {ps : List RT} {x : List UInt8} {v sl : Value} {f : Nat → Bool} {w : World} (hx : x.length ≤ 900) (hD : ∀ b, D b → b < w.heap.size) (hl : ps.length ≤ 9223372036854775806) (h : RV D w (.mk 5 u ps) v) (hf : BL (x.length + 1) f sl w) (h1 : Hid (ps.length = 1)) (hI : ∀ i (hi : i < ps.length), EnC D ps[i] x) :
    Calls Try.prog 59 #[v, .string (bs x), sl] w (EiP (x.length + 1) (edF (.mk 5 u ps) x f) w) := by
  obtain ⟨i0, hi, hz0, hz1, hz2⟩ := info_parts infoB
  obtain ⟨p, c, rfl, hp⟩ := h.parts
  have HP := Lib.hid hp
  obtain ⟨N, hN⟩ : ∃ N, x.length + 1 = N := ⟨_, rfl⟩
  rw [hN] at hf ⊢
  have hNi : ((x.length : Nat) : Int) + 1 = (N : Int) := by omega
  have hF := hf
  obtain ⟨gs, rfl, hgs⟩ := hf.form
  have HF := Lib.hid hF
  clear h hp hf hF
  have B0 := Lib.hid ((Below.refl w.heap.size w).alloc (Nat.le_refl _) (.cells #[.int .i64 5, .int .u64 (u 0), .int .u64 (u 1), .int .u64 (u 2), .int .u64 (u 3), .slice p ps.length c] 56))
  have X0 := Lib.hid (heap_alloc_last w (.cells #[.int .i64 5, .int .u64 (u 0), .int .u64 (u 1), .int .u64 (u 2), .int .u64 (u 3), .slice p ps.length c] 56))
  have hsw : (w.alloc (.cells #[.int .i64 5, .int .u64 (u 0), .int .u64 (u 1), .int .u64 (u 2), .int .u64 (u 3), .slice p ps.length c] 56)).heap.size = w.heap.size + 1 := by simp
  go_enter Try.func59, Try.ntmps59
  go_wp2_with (at_make; refine wpList_make_full _ rfl (.tmp 14) (.tmp 14) 71 rfl w.heap.size 4 i0 (.bool false) 1 Try.underlying71 hi hz0 hz1 .i64 .i64 _ _ N rfl rfl ?l1 ?l2 ?b2 ?b3 ?b4 ?_)
  case l1 => first | exact hNi | (simp; omega) | omega
  case l2 => first | exact hNi | (simp; omega) | omega
  case b2 => rw [hz2]; omega
  case b3 => unfold maxLen; omega
  case b4 => simp
  intro w1 hown hgrow
  first | rw [made_fb] at hown | rw [hsw, made_fb] at hown
  have HG := Lib.hid (own_fb hown)
  have HW := Lib.hid (below_grown6 (B := w.heap.size) B0.out hgrow (fun g h => by cases h) (by rw [hsw]; omega))
  have hX1 : w1.heap[w.heap.size]? = some (.cells #[.int .i64 5, .int .u64 (u 0), .int .u64 (u 1), .int .u64 (u 2), .int .u64 (u 3), .slice p ps.length c] 56 (0, 0)) := (hgrow.block _ (by rw [hsw]; omega) (fun h => by cases h)).trans X0.out
  have HE0 := Lib.hid ((⟨hX1, HG.out, HF.out.up HW.out, HW.out⟩ : EW w N #[.int .i64 5, .int .u64 (u 0), .int .u64 (u 1), .int .u64 (u 2), .int .u64 (u 3), .slice p ps.length c] (fun _ => false) gs f w1))
  clear hown hgrow HG HW hX1 X0 B0 HF
  have hlt : 0 < ps.length := by have := h1.out; omega
  have hne : ps ≠ [] := by intro e; subst e; simp at hlt
  have q0 : w1.cell? ⟨w.heap.size, 0, none⟩ = some (.int .i64 5) := cell_of_row w1 _ 0 _ 56 (0, 0) HE0.out.1
  have q5 : w1.cell? ⟨w.heap.size, 5, none⟩ = some (.slice p ps.length c) := cell_of_row w1 _ 5 _ 56 (0, 0) HE0.out.1
  have i0 : (0 : Int) < ((ps.length : Nat) : Int) := by omega
  obtain ⟨b, o, rfl, hDb, hx9⟩ := HP.out hne
  obtain ⟨k', u', p', n', c', hv, hcell⟩ := hx9 0 hlt
  have hbw := hD b hDb
  have cc : ∀ i y, (nodeC k' u' (.slice p' n' c'))[i]? = some y → w1.cell? ⟨b, o + 0 * 6 + i, none⟩ = some y := fun i y hy => by
    rw [HE0.out.2.2.2.cell (p := ⟨b, o + 0 * 6 + i, none⟩) hbw, ← hcell i y hy, show o + 0 * 6 + i = o + (6 * 0 + i) by omega]
  have d0 : w1.cell? ⟨b, o, none⟩ = some (.int .i64 k') := by have h := cc 0 (.int .i64 k') rfl; simpa using h
  have d1 : w1.cell? ⟨b, o + 1, none⟩ = some (.int .u64 (u' 0)) := by have h := cc 1 (.int .u64 (u' 0)) rfl; simpa using h
  have d2 : w1.cell? ⟨b, o + 2, none⟩ = some (.int .u64 (u' 1)) := by have h := cc 2 (.int .u64 (u' 1)) rfl; simpa using h
  have d3 : w1.cell? ⟨b, o + 3, none⟩ = some (.int .u64 (u' 2)) := by have h := cc 3 (.int .u64 (u' 2)) rfl; simpa using h
  have d4 : w1.cell? ⟨b, o + 4, none⟩ = some (.int .u64 (u' 3)) := by have h := cc 4 (.int .u64 (u' 3)) rfl; simpa using h
  have d5 : w1.cell? ⟨b, o + 5, none⟩ = some (.slice p' n' c') := by have h := cc 5 (.slice p' n' c') rfl; simpa using h
  have HA := Lib.hid (again_walk (sl := (.slice (some ⟨gs, 0, none⟩) N N)) (f := f) hx (fun b hb => Nat.lt_of_lt_of_le (hD b hb) HE0.out.2.2.2.size) (RV.mono (w' := w1) (fun b h => h) (fun b hb _ => HE0.out.2.2.2.block b (hD b hb)) hv) (by rw [hN]; exact HE0.out.2.2.1) (hI 0 hlt))
  rw [hN] at HA
  clear hcell hx9 cc hv
  have HT : Hid (edF (.mk 5 u ps) x f = stF ps[0] x f) := Lib.hid (by obtain ⟨t, rfl⟩ := List.length_eq_one_iff.1 h1.out; exact ed_5 u t x f)
  have HB1 := Lib.hid HE0.out.2.2.2
  clear HE0
  go_wp2_with fail
  refine HA.out.mono ?_
  rintro _ w8 ⟨⟨v8, rfl, hv8⟩, hb⟩
  rw [← HT.out] at hv8
  have HR8 := Lib.hid hv8
  have HB8 := Lib.hid (HB1.out.trans (hb.mono HB1.out.size))
  clear hb hv8 HA HB1 HT q0 q5 d0 d1 d2 d3 d4 d5
  go_wp2_with fail
  go_ret
  exact ⟨⟨_, rfl, HR8.out⟩, HB8.out⟩
end Go.Proofs.Ytnhfeakndofokaa
