/- Texts of package regs, one behind the other. -/
import Derived.Test.YtnhfeakndofokaaProg
import Derived.Test.YtnhfeakndofokaaY38
import Derived.Test.YtnhfeakndofokaaY39
import Derived.WalkKit
import Derived.WalkLawsBesides
import Derived.WalkSpells
import Derived.Outline
import Derived.Lib.Walk
import Derived.Lib.Hide
import Derived.Lib.Slices
import Derived.Lib.Strings
import Derived.RegionTactic
import Derived.LoopTactic
import Derived.Below
import Derived.IntWalk
import Derived.Deep.QuietTactic
import Derived.BigQuiet
import Derived.Deep.MidRow
import Derived.Maps.AppendAt
import Derived.Laws.Rows
import Derived.Laws.Tables
import Derived.Deep.WholeRow
import Derived.Deep.Cut
import Derived.Deep.CutRange
import Derived.Lib.SliceRun
import Derived.Laws.MakeOwn
import Derived.Deep.RegionLaw
import Derived.Deep.RegionLawGrows
import Derived.Deep.RegionHeld3
import Derived.RegionCalls
import Derived.Deep.RegionWith
import Derived.Deep.Light
import Derived.Laws.CopyOwn
import Derived.Laws.ResultCell
import Derived.Test.YtnhfeakndofokaaBg
import Derived.Test.YtnhfeakndofokaaY13
section
/- Package nfa. -/
namespace Go.Proofs.Ytnhfeakndofokaa
set_option linter.unusedSimpArgs false
set_option linter.unusedVariables false
set_option maxRecDepth 100000
open Go.RowKit
/- The document's Ends and Whole. -/
theorem mayL_get : ∀ (ts : List RT) (i : Nat) (h : i < ts.length), mayL ts = true → mayB ts[i] = true
  | t :: ts, 0, h, g => by rw [mayL, Bool.and_eq_true] at g; exact g.1
  | t :: ts, i + 1, h, g => by rw [mayL, Bool.and_eq_true] at g; exact mayL_get ts i (by simpa using h) g.2
theorem fits_kind {k : Int} {n : Nat} (h : fitsB k n = true) : k = 0 ∨ k = 1 ∨ k = 2 ∨ k = 3 ∨ k = 4 ∨ (k = 5 ∧ n = 1) ∨ (k = 6 ∧ n = 1) ∨ (k = 7 ∧ n = 1) := by
  unfold fitsB at h
  split at h
  · omega
  · split at h
    · omega
    · split at h
      · rename_i h2; simp at h; omega
      · cases h
theorem okTL_get : ∀ (ps : List RT) (i : Nat) (h : i < ps.length), okTL ps → okT ps[i]
  | p :: r, 0, _, ho => by rw [okTL] at ho; exact ho.1
  | p :: r, i + 1, h, ho => by rw [okTL] at ho; exact okTL_get r i (by simpa using h) ho.2
theorem lg_mk1 (u : Nat → Int) (ps : List RT) (w : List UInt8) : Lg (.mk 1 u ps) w ↔ Lg (.mk 1 u []) w := by
  rw [Lg, Lg]
  simp only [show ¬ ((1 : Int) = 0) by decide, if_false, if_true]
theorem lg_mk2 (u : Nat → Int) (ps : List RT) (w : List UInt8) : Lg (.mk 2 u ps) w ↔ Lg (.mk 2 u []) w := by
  rw [Lg, Lg]
  simp only [show ¬ ((2 : Int) = 0) by decide, show ¬ ((2 : Int) = 1) by decide, if_false, if_true]
theorem ends_any {D : Nat → Prop} {x : List UInt8} (hx : x.length ≤ 900) : ∀ (n : Nat) (t : RT), dep t ≤ n → wid t ≤ 9223372036854775806 → mayB t = true → okT t → EnC D t x
  | 0, .mk k u ps, hn, _, _, _ => by simp [dep] at hn
  | n + 1, .mk k u ps, hn, hw, hm, hok => Lib.hid fun v sl f w h hD hf => by
    have h1 : depL ps ≤ n := by simp only [dep] at hn; omega
    obtain ⟨hl, hw2⟩ := wid_mk hw
    rw [mayB, Bool.and_eq_true, Bool.and_eq_true] at hm
    rw [okT] at hok
    have hT : ∀ i (hi : i < ps.length), EnC D ps[i] x := fun i hi => ends_any hx n ps[i] (by have := depL_get ps i hi; omega) (hw2 i hi) (mayL_get ps i hi hm.2) (okTL_get ps i hi hok.2)
    rcases fits_kind hm.1.1 with rfl | rfl | rfl | rfl | rfl | ⟨rfl, e1⟩ | ⟨rfl, e1⟩ | ⟨rfl, e1⟩
    · exact ends_0 hx hD hl h hf
    · rw [show edF (.mk 1 u ps) x f = edF (.mk 1 u []) x f from edG_congr (lg_mk1 u ps) x f]
      exact ends_1 hx hD hl h hf
    · rw [show edF (.mk 2 u ps) x f = edF (.mk 2 u []) x f from edG_congr (lg_mk2 u ps) x f]
      exact ends_2 hx hD hl h hf (Lib.hid fun w => flags_u hok.1 w)
    · exact ends_3 hx hD hl h hf hT
    · exact ends_4 hx hD hl h hf hT
    · exact ends_5 hx hD hl h hf (Lib.hid e1) hT
    · exact ends_6 hx hD hl h hf (Lib.hid e1) hT
    · exact ends_7 hx hD hl h hf (Lib.hid e1) hT
theorem ed_whole (t : RT) (x : List UInt8) : edF t x (fun j => decide (j = 0)) x.length = true ↔ Lg t x := by
  unfold edF
  rw [edG_iff]
  constructor
  · rintro ⟨i, h1, h2, h3, h4⟩
    obtain rfl : i = 0 := by simpa using h1
    have e : segL x 0 x.length = x := by simp [segL]
    rwa [e] at h4
  · intro h
    refine ⟨0, by simp, by omega, by omega, ?_⟩
    have e : segL x 0 x.length = x := by simp [segL]
    rwa [e]
set_option maxHeartbeats 8000000 in
theorem whole_walk {D : Nat → Prop} {t : RT} {x : List UInt8} {v : Value} {w : World} (hx : x.length ≤ 900) (hD : ∀ b, D b → b < w.heap.size) (h : RV D w t v) (hE : EnC D t x) :
    Calls Try.prog 44 #[v, .string (bs x)] w fun e w' => e = .returned (.bool (edF t x (fun j => decide (j = 0)) x.length)) ∧ Below w.heap.size w w' := by
  obtain ⟨i0, hi, hz0, hz1, hz2⟩ := info_parts infoB
  obtain ⟨k, u, p, n, c, rfl⟩ := h.form2
  obtain ⟨N, hN⟩ : ∃ N, x.length + 1 = N := ⟨_, rfl⟩
  have hNi : ((x.length : Nat) : Int) + 1 = (N : Int) := by omega
  have HV := Lib.hid h
  clear h
  have B0 := Lib.hid ((Below.refl w.heap.size w).alloc (Nat.le_refl _) (.cells #[.int .i64 k, .int .u64 (u 0), .int .u64 (u 1), .int .u64 (u 2), .int .u64 (u 3), .slice p n c] 56))
  have X0 := Lib.hid (heap_alloc_last w (.cells #[.int .i64 k, .int .u64 (u 0), .int .u64 (u 1), .int .u64 (u 2), .int .u64 (u 3), .slice p n c] 56))
  have hsw : (w.alloc (.cells #[.int .i64 k, .int .u64 (u 0), .int .u64 (u 1), .int .u64 (u 2), .int .u64 (u 3), .slice p n c] 56)).heap.size = w.heap.size + 1 := by simp
  go_enter Try.func44, Try.ntmps44
  go_wp2_with (at_make; refine wpList_make_full _ rfl (.tmp 8) (.tmp 8) 71 rfl w.heap.size 4 i0 (.bool false) 1 Try.underlying71 hi hz0 hz1 .i64 .i64 _ _ N rfl rfl ?l1 ?l2 ?b2 ?b3 ?b4 ?_)
  case l1 => first | exact hNi | (simp; omega) | omega
  case l2 => first | exact hNi | (simp; omega) | omega
  case b2 => rw [hz2]; omega
  case b3 => unfold maxLen; omega
  case b4 => simp
  intro w1 hown hgrow
  first | rw [made_fb] at hown | rw [hsw, made_fb] at hown
  have HG := Lib.hid (own_fb hown)
  have HW := Lib.hid (below_grown6 (B := w.heap.size) B0.out hgrow (fun g h => by cases h) (by rw [hsw]; omega))
  have hX1 : w1.heap[w.heap.size]? = some (.cells #[.int .i64 k, .int .u64 (u 0), .int .u64 (u 1), .int .u64 (u 2), .int .u64 (u 3), .slice p n c] 56 (0, 0)) := (hgrow.block _ (by rw [hsw]; omega) (fun h => by cases h)).trans X0.out
  have S1 : Hid (Sb w w1 [(w.heap.size + 1, .cells (fbA N fun _ => false) 4 (0, 0)), (w.heap.size, .cells #[.int .i64 k, .int .u64 (u 0), .int .u64 (u 1), .int .u64 (u 2), .int .u64 (u 3), .slice p n c] 56 (0, 0))]) := Lib.hid ⟨HW.out, by
    intro c hc
    simp only [List.mem_cons, List.not_mem_nil, or_false] at hc
    rcases hc with rfl | rfl
    · exact ⟨Nat.le_succ _, HG.out⟩
    · exact ⟨Nat.le_refl _, hX1⟩⟩
  clear hown hgrow HG HW hX1 X0 B0
  have c9 : w1.cell? ⟨w.heap.size + 1, 0, none⟩ = some (.bool false) := (S1.out.cell 0).trans (fbA_get N _ 0 (by omega))
  have f9 := S1.out.free 0
  have i0 : (0 : Int) < (N : Int) := by omega
  have S2 : Hid (Sb w (w1.setCell ⟨w.heap.size + 1, 0, none⟩ (.bool true)) [(w.heap.size + 1, .cells (fbA N fun j => decide (j = 0)) 4 (0, 0)), (w.heap.size, .cells #[.int .i64 k, .int .u64 (u 0), .int .u64 (u 1), .int .u64 (u 2), .int .u64 (u 3), .slice p n c] 56 (0, 0))]) := Lib.hid (by
    have h1 := S1.out.set (i := 0) (.bool true) (by intro c hc; simp only [List.mem_cons, List.not_mem_nil, or_false] at hc; rcases hc with rfl; simp)
    rw [fbA_set] at h1
    rw [show (fbA N fun j => decide (j = 0)) = fbA N (fun j => if j = 0 then true else false) from fbA_congr fun j _ => by by_cases h : j = 0 <;> simp [h]]
    exact h1)
  go_upto_region 3 with fail
  refine at_world (fun y => Sb w y [(w.heap.size + 1, .cells (fbA N fun j => decide (j = 0)) 4 (0, 0)), (w.heap.size, .cells #[.int .i64 k, .int .u64 (u 0), .int .u64 (u 1), .int .u64 (u 2), .int .u64 (u 3), .slice p n c] 56 (0, 0))]) S2.out fun y hy => ?_
  have S3 := Lib.hid hy
  clear S1 S2 hy c9 f9
  have q0 : y.cell? ⟨w.heap.size, 0, none⟩ = some (.int .i64 k) := S3.out.tl.cell 0
  have q1 : y.cell? ⟨w.heap.size, 1, none⟩ = some (.int .u64 (u 0)) := S3.out.tl.cell 1
  have q2 : y.cell? ⟨w.heap.size, 2, none⟩ = some (.int .u64 (u 1)) := S3.out.tl.cell 2
  have q3 : y.cell? ⟨w.heap.size, 3, none⟩ = some (.int .u64 (u 2)) := S3.out.tl.cell 3
  have q4 : y.cell? ⟨w.heap.size, 4, none⟩ = some (.int .u64 (u 3)) := S3.out.tl.cell 4
  have q5 : y.cell? ⟨w.heap.size, 5, none⟩ = some (.slice p n c) := S3.out.tl.cell 5
  have qz := S3.out.tl.lt
  have HC := Lib.hid (hE.out (.agg #[.int .i64 k, .int .u64 (u 0), .int .u64 (u 1), .int .u64 (u 2), .int .u64 (u 3), .slice p n c]) (.slice (some ⟨w.heap.size + 1, 0, none⟩) N N) (fun j => decide (j = 0)) y (RV.mono (fun b h => h) (fun b hb _ => S3.out.1.block b (hD b hb)) HV.out) (fun b hb => Nat.lt_of_lt_of_le (hD b hb) S3.out.1.size) (by rw [hN]; exact ⟨_, rfl, S3.out.heap⟩))
  rw [hN] at HC
  go_wp2_with fail
  refine HC.out.mono ?_
  rintro _ w7 ⟨⟨v7, rfl, hv7⟩, hb⟩
  have HB := Lib.hid (S3.out.1.trans (hb.mono S3.out.1.size))
  obtain ⟨g7, rfl, hg7⟩ := hv7.form
  have c7 : w7.cell? ⟨g7, x.length, none⟩ = some (.bool (edF t x (fun j => decide (j = 0)) x.length)) := hv7.cell x.length (by omega)
  have i7 : ((x.length : Nat) : Int) < (N : Int) := by omega
  clear hb hv7 HC S3 q0 q1 q2 q3 q4 q5 qz
  obtain ⟨R, hR⟩ : ∃ R, edF t x (fun j => decide (j = 0)) x.length = R := ⟨_, rfl⟩
  rw [hR] at c7
  have HR := Lib.hid hR
  clear hR
  go_wp2_with fail
  go_ret
  exact ⟨by rw [HR.out]; rfl, HB.out⟩
end Go.Proofs.Ytnhfeakndofokaa
end
section
/- Package nfa. -/
namespace Go.Proofs.Ytnhfeakndofokaa
set_option linter.unusedSimpArgs false
set_option linter.unusedVariables false
set_option maxRecDepth 100000
open Go.RowKit

/- A queue of patterns in a row of one's own: taken off its head, put to its end. -/
def QW (w0 : World) (D : Nat → Prop) (ts : List RT) (sl : Value) (w : World) : Prop :=
  ∃ (g off cap : Nat) (xs : List (Array Value)) (cur : Array Value), sl = .slice (some ⟨g, off, none⟩) ts.length cap ∧ w0.heap.size ≤ g ∧ ts.length ≤ cap ∧ w.heap[g]? = some (.cells cur 56 (0, 0)) ∧ off + cap * 6 ≤ cur.size ∧ xs.length = ts.length ∧ (∀ x ∈ xs, ∃ k u p n c, x = nodeC k u (.slice p n c)) ∧
    (∀ i (h : i < ts.length) (h' : i < xs.length), RV D w0 ts[i] (.agg xs[i])) ∧ ∀ i, i < ts.length * 6 → cur[off + i]? = (flat6 xs)[i]?
theorem QW.one {w0 w : World} {D : Nat → Prop} {t : RT} {k : Int} {u : Nat → Int} {p : Option Addr} {n c : Nat} (ht : RV D w0 t (.agg (nodeC k u (.slice p n c)))) (hw : w0.heap.size ≤ w.heap.size) : QW w0 D [t] (.slice (some ⟨w.heap.size, 0, none⟩) 1 1) (w.alloc (.cells (nodeC k u (.slice p n c)) 56)) :=
  ⟨w.heap.size, 0, 1, [nodeC k u (.slice p n c)], nodeC k u (.slice p n c), rfl, hw, Nat.le_refl _, heap_alloc_last w _, (show 0 + 1 * 6 ≤ 6 by omega), rfl, fun x hx => by simp at hx; exact ⟨k, u, p, n, c, hx⟩, fun i hi hi' => by
    have : i = 0 := by simpa using hi
    subst this; exact ht, fun i hi => by rw [Nat.zero_add]; simp [flat6]⟩
theorem QW.up {w0 w w' : World} {D : Nat → Prop} {ts : List RT} {sl : Value} (h : QW w0 D ts sl w) (hb : Below w.heap.size w w') : QW w0 D ts sl w' := by
  obtain ⟨g, off, cap, xs, cur, h1, h2, h3, h4, h5⟩ := h
  exact ⟨g, off, cap, xs, cur, h1, h2, h3, (hb.block g (Array.getElem?_eq_some_iff.1 h4).1).trans h4, h5⟩
theorem QW.sl {w0 w : World} {D : Nat → Prop} {ts : List RT} {sl : Value} (h : QW w0 D ts sl w) : ∃ g off cap, sl = .slice (some ⟨g, off, none⟩) ts.length cap ∧ ts.length ≤ cap ∧ w0.heap.size ≤ g ∧ g < w.heap.size := by
  obtain ⟨g, off, cap, xs, cur, h1, h2, h3, h4, h5⟩ := h
  exact ⟨g, off, cap, h1, h3, h2, (Array.getElem?_eq_some_iff.1 h4).1⟩
theorem flat6_cons (x : Array Value) (xs : List (Array Value)) : flat6 (x :: xs) = x.toList ++ flat6 xs := rfl
/-- The first one. -/
theorem QW.head {w0 w : World} {D : Nat → Prop} {t : RT} {ts : List RT} {g off cap : Nat} (h : QW w0 D (t :: ts) (.slice (some ⟨g, off, none⟩) (ts.length + 1) cap) w) : ∃ k u p n c, RV D w0 t (.agg (nodeC k u (.slice p n c))) ∧ ∀ j y, (nodeC k u (.slice p n c))[j]? = some y → w.cell? ⟨g, off + j, none⟩ = some y := by
  obtain ⟨g', off', cap', xs, cur, h1, h2, h3, h4, h5, h6, h7, h8, h9⟩ := h
  simp only [Value.slice.injEq, Option.some.injEq, Addr.mk.injEq] at h1
  obtain ⟨⟨rfl, rfl, -⟩, -, rfl⟩ := h1
  match xs, h6 with
  | x :: xs, h6 =>
    obtain ⟨k, u, p, n, c, rfl⟩ := h7 x (List.mem_cons_self ..)
    refine ⟨k, u, p, n, c, h8 0 (by simp) (by simp), fun j y hy => ?_⟩
    have hj : j < 6 := (Array.getElem?_eq_some_iff.1 hy).1
    rw [cell_of_row w g _ cur 56 (0, 0) h4, h9 j (by simp; omega), flat6_cons, List.getElem?_append_left (by rw [Array.length_toList]; exact hj), Array.getElem?_toList]
    exact hy
theorem QW.tail {w0 w : World} {D : Nat → Prop} {t : RT} {ts : List RT} {g off cap : Nat} (h : QW w0 D (t :: ts) (.slice (some ⟨g, off, none⟩) (ts.length + 1) cap) w) : (cap = 1 → QW w0 D ts (.slice (some ⟨g, off, none⟩) ts.length 0) w) ∧ (cap ≠ 1 → QW w0 D ts (.slice (some ⟨g, off + 6, none⟩) ts.length (cap - 1)) w) := by
  obtain ⟨g', off', cap', xs, cur, h1, h2, h3, h4, h5, h6, h7, h8, h9⟩ := h
  simp only [Value.slice.injEq, Option.some.injEq, Addr.mk.injEq] at h1
  obtain ⟨⟨rfl, rfl, -⟩, -, rfl⟩ := h1
  match xs, h6 with
  | x :: xs, h6 =>
    have hx6 : x.size = 6 := nodes_six h7 x (List.mem_cons_self ..)
    have hl : xs.length = ts.length := by simpa using h6
    have h8' : ∀ i (h : i < ts.length) (h' : i < xs.length), RV D w0 ts[i] (.agg xs[i]) := fun i hi hi' => by
      have := h8 (i + 1) (by simpa using hi) (by simpa using hi')
      simpa using this
    have h7' : ∀ y ∈ xs, ∃ k u p n c, y = nodeC k u (.slice p n c) := fun y hy => h7 y (List.mem_cons_of_mem _ hy)
    simp only [List.length_cons] at h3 h9
    constructor
    · rintro rfl
      have h0 : ts.length = 0 := by omega
      exact ⟨g, off, 0, xs, cur, rfl, h2, by omega, h4, by omega, hl, h7', h8', fun i hi => by rw [h0] at hi; omega⟩
    · intro hc
      refine ⟨g, off + 6, cap - 1, xs, cur, rfl, h2, by omega, h4, by omega, hl, h7', h8', fun i hi => ?_⟩
      have := h9 (i + 6) (by omega)
      rw [flat6_cons, List.getElem?_append_right (by simp [hx6])] at this
      rw [show off + 6 + i = off + (i + 6) by omega, this]
      congr 1
      simp [hx6]
theorem flat6_len6 {xs : List (Array Value)} (h : ∀ x ∈ xs, ∃ k u p n c, x = nodeC k u (.slice p n c)) : (flat6 xs).length = xs.length * 6 := flat6_len xs (nodes_six h)
/-- One more, where there is room. -/
theorem QW.room {w0 w w1 : World} {D : Nat → Prop} {ts : List RT} {t : RT} {g off cap : Nat} {k : Int} {u : Nat → Int} {p : Option Addr} {n c : Nat} (h : QW w0 D ts (.slice (some ⟨g, off, none⟩) ts.length cap) w) (ht : RV D w0 t (.agg (nodeC k u (.slice p n c)))) (hb : Below w.heap.size w w1) (hr : ts.length + 1 ≤ cap) :
    QW w0 D (ts ++ [t]) (.slice (some ⟨g, off, none⟩) (ts.length + 1) cap) (w1.setCells g (off + ts.length * 6) (nodeC k u (.slice p n c)).toList) := by
  obtain ⟨g', off', cap', xs, cur, h1, h2, h3, h4, h5, h6, h7, h8, h9⟩ := h
  simp only [Value.slice.injEq, Option.some.injEq, Addr.mk.injEq] at h1
  obtain ⟨⟨rfl, rfl, -⟩, -, rfl⟩ := h1
  have hg : w1.heap[g]? = some (.cells cur 56 (0, 0)) := (hb.block g (Array.getElem?_eq_some_iff.1 h4).1).trans h4
  have hnl : (nodeC k u (.slice p n c)).toList.length = 6 := rfl
  have hfl := flat6_len6 h7
  refine ⟨g, off, cap, xs ++ [nodeC k u (.slice p n c)], putA cur (off + ts.length * 6) (nodeC k u (.slice p n c)).toList, by simp, h2, by simpa using hr, setCells_heap _ _ _ _ hg, by rw [putA_size]; exact h5, by simp [h6], fun x hx => ?_, fun i hi hi' => ?_, fun i hi => ?_⟩
  · rcases List.mem_append.1 hx with hx | hx
    · exact h7 x hx
    · simp at hx; exact ⟨k, u, p, n, c, hx⟩
  · by_cases hlt : i < ts.length
    · have := h8 i hlt (by omega)
      simpa [List.getElem_append_left, hlt, h6] using this
    · have hi2 : i = ts.length := by simp at hi; omega
      subst hi2
      have e1 : (ts ++ [t])[ts.length]'hi = t := by simp
      have e2 : (xs ++ [nodeC k u (.slice p n c)])[ts.length]'hi' = nodeC k u (.slice p n c) := by simp [← h6]
      rw [e1, e2]; exact ht
  · rw [List.length_append, List.length_singleton] at hi
    rw [putA_get _ _ _ _ (by rw [hnl]; omega), hnl, flat6_app]
    by_cases hlt : i < ts.length * 6
    · rw [if_neg (by omega), h9 i hlt, List.getElem?_append_left (by omega)]
    · rw [if_pos (by omega), List.getElem?_append_right (by omega)]
      congr 1
      omega
theorem QW.grow {w0 w w1 w2 : World} {D : Nat → Prop} {ts : List RT} {t : RT} {g off cap : Nat} {k : Int} {u : Nat → Int} {p : Option Addr} {n c : Nat} {v : Value} {xs : List (Array Value)} (h6 : xs.length = ts.length) (h7 : ∀ x ∈ xs, ∃ k u p n c, x = nodeC k u (.slice p n c)) (h8 : ∀ i (h : i < ts.length) (h' : i < xs.length), RV D w0 ts[i] (.agg xs[i])) (ht : RV D w0 t (.agg (nodeC k u (.slice p n c))))
    (hsz : w0.heap.size ≤ w1.heap.size) (hown : w2.ownsRow w1.heap.size 56 6 v (ts.length + 1) (flat6 xs ++ (nodeC k u (.slice p n c)).toList)) : QW w0 D (ts ++ [t]) v w2 := by
  rcases hown.2 with ⟨_, hn⟩ | ⟨g', cap', cur, hv, hg, hh, hc1, hc2, hc3, hc4⟩
  · omega
  · refine ⟨g', 0, cap', xs ++ [nodeC k u (.slice p n c)], cur, by rw [hv]; simp, by omega, by simpa using hc1, hh, by omega, by simp [h6], fun x hx => ?_, fun i hi hi' => ?_, fun i hi => ?_⟩
    · rcases List.mem_append.1 hx with hx | hx
      · exact h7 x hx
      · simp at hx; exact ⟨k, u, p, n, c, hx⟩
    · by_cases hlt : i < ts.length
      · have := h8 i hlt (by omega)
        simpa [List.getElem_append_left, hlt, h6] using this
      · have hi2 : i = ts.length := by simp at hi; omega
        subst hi2
        have e1 : (ts ++ [t])[ts.length]'hi = t := by simp
        have e2 : (xs ++ [nodeC k u (.slice p n c)])[ts.length]'hi' = nodeC k u (.slice p n c) := by simp [← h6]
        rw [e1, e2]; exact ht
    · rw [List.length_append, List.length_singleton] at hi
      rw [Nat.zero_add, flat6_app, ← hc4, List.getElem?_take_of_lt hi, Array.getElem?_toList]
end Go.Proofs.Ytnhfeakndofokaa
end
