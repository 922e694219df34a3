/- Texts of package regs, one behind the other. -/
import Derived.Test.YthglciccejholaaDoorProg
import Derived.Test.YthglciccejholaaDoorV44
import Derived.WalkKit
import Derived.WalkLawsBesides
import Derived.WalkSpells
import Derived.Outline
import Derived.Lib.Walk
import Derived.Lib.Hide
import Derived.Lib.Slices
import Derived.Lib.Strings
import Derived.RegionTactic
import Derived.LoopTactic
import Derived.Below
import Derived.IntWalk
import Derived.Deep.QuietTactic
import Derived.BigQuiet
import Derived.Deep.MidRow
import Derived.Maps.AppendAt
import Derived.Laws.Rows
import Derived.Laws.Tables
import Derived.Deep.WholeRow
import Derived.Deep.Cut
import Derived.Deep.CutRange
import Derived.Lib.SliceRun
import Derived.Laws.MakeOwn
import Derived.Deep.RegionLaw
import Derived.Deep.RegionLawGrows
import Derived.Deep.RegionHeld3
import Derived.RegionCalls
import Derived.Deep.RegionWith
import Derived.Deep.Light
import Derived.Test.YthglciccejholaaDoorV47
import Derived.Test.YthglciccejholaaDoorLe
import Derived.Test.YthglciccejholaaDoorV46
import Derived.Test.YthglciccejholaaDoorV42
section
/- Package nfa. -/
namespace Go.Proofs.YthglciccejholaaDoor
set_option linter.unusedSimpArgs false
set_option linter.unusedVariables false
set_option maxRecDepth 100000
open Go.RowKit
/- What is laid of a plus. -/
set_option maxHeartbeats 8000000 in
theorem lay_plusP {B : Nat} {P : Nat → Prop} {w0 y : World} {bb : Nat} {ss : List Nq} {sl : Value} {pt : RT} {k : Int} {u us : Nat → Int} {t : Int} {p : Option Addr} {n c b o cs : Nat} (IH : LayOK pt) (h : BB B P w0 y bb ss sl) (hlen : ss.length + 1 + sz pt * 8192 ≤ 900000000) (hP : P b) (hv : RV P y pt (.agg (nodeC k u (.slice p n c))))
    (hc : ∀ j v, (nodeC k u (.slice p n c))[j]? = some v → y.cell? ⟨b, o + j, none⟩ = some v) :
    Calls Tryd.prog 39 #[.pointer (some ⟨bb, 0, none⟩), .agg (nodeC 6 us (.slice (some ⟨b, o, none⟩) 1 cs)), .int .i64 t] y (LayPost B P w0 y bb ss (⟨uZ, -1, [t, (layF pt (ss.length : Nat) (ss.length + 1)).2], -1⟩ :: (layF pt (ss.length : Nat) (ss.length + 1)).1, (layF pt (ss.length : Nat) (ss.length + 1)).2)) := by
  have hbl := blk_lt (hc 0 _ rfl)
  have hb0 := (((Below.refl y.heap.size y).alloc (Nat.le_refl _) (.cells #[.pointer (some ⟨bb, 0, none⟩)] 118)).alloc (by simp) (.cells (nodeC 6 us (.slice (some ⟨b, o, none⟩) 1 cs)) 27)).alloc (by simp; omega) (.cells #[.int .i64 t] 3)
  have HB := Lib.hid (h.up hb0)
  have HK := Lib.hid fun b (hp : P b) => hb0.block b (h.pr b hp).1
  have HCC := Lib.hid fun j v hv => (cell_same (hb0.block b hbl) _).trans (hc j v hv)
  have HRV := Lib.hid (hv.mono (E := P) (fun b h => h) (fun b hp _ => hb0.block b (h.pr b hp).1))
  have S0 := Lib.hid ((((Sb.start y).alloc (.cells #[.pointer (some ⟨bb, 0, none⟩)] 118)).alloc (.cells (nodeC 6 us (.slice (some ⟨b, o, none⟩) 1 cs)) 27)).alloc (.cells #[.int .i64 t] 3))
  clear h hc hb0 hv
  unfold nodeC at *
  go_enter Tryd.func39, Tryd.ntmps39
  go_upto_region 17 with fail
  have z1 : (y.alloc (.cells #[.pointer (some ⟨bb, 0, none⟩)] 118)).heap.size = y.heap.size + 1 := by simp
  have z2 : ((y.alloc (.cells #[.pointer (some ⟨bb, 0, none⟩)] 118)).alloc (.cells #[.int .i64 6, .int .u64 (us 0), .int .u64 (us 1), .int .u64 (us 2), .int .u64 (us 3), .slice (some ⟨b, o, none⟩) 1 cs] 27)).heap.size = y.heap.size + 1 + 1 := by simp
  rw [z1, z2] at S0
  clear z1 z2
  refine at_world (fun z => BB B P w0 z bb ss sl ∧ Sb y z [(y.heap.size + 1 + 1, .cells #[.int .i64 t] 3), (y.heap.size + 1, .cells #[.int .i64 6, .int .u64 (us 0), .int .u64 (us 1), .int .u64 (us 2), .int .u64 (us 3), .slice (some ⟨b, o, none⟩) 1 cs] 27), (y.heap.size, .cells #[.pointer (some ⟨bb, 0, none⟩)] 118)] ∧ (∀ j v, (#[.int .i64 k, .int .u64 (u 0), .int .u64 (u 1), .int .u64 (u 2), .int .u64 (u 3), .slice p n c] : Array Value)[j]? = some v → z.cell? ⟨b, o + j, none⟩ = some v) ∧ (∀ b, P b → z.heap[b]? = y.heap[b]?) ∧ RV P z pt (.agg #[.int .i64 k, .int .u64 (u 0), .int .u64 (u 1), .int .u64 (u 2), .int .u64 (u 3), .slice p n c])) ⟨HB.out, S0.out, HCC.out, HK.out, HRV.out⟩ fun z hz => ?_
  have H1 := Lib.hid hz.1
  have S1 := Lib.hid hz.2.1
  have HK1 := Lib.hid hz.2.2.2.1
  have hrv := hz.2.2.2.2
  have d0 : z.cell? ⟨b, o, none⟩ = some (.int .i64 k) := hz.2.2.1 0 _ rfl
  have d1 : z.cell? ⟨b, o + 1, none⟩ = some (.int .u64 (u 0)) := hz.2.2.1 1 _ rfl
  have d2 : z.cell? ⟨b, o + 2, none⟩ = some (.int .u64 (u 1)) := hz.2.2.1 2 _ rfl
  have d3 : z.cell? ⟨b, o + 3, none⟩ = some (.int .u64 (u 2)) := hz.2.2.1 3 _ rfl
  have d4 : z.cell? ⟨b, o + 4, none⟩ = some (.int .u64 (u 3)) := hz.2.2.1 4 _ rfl
  have d5 : z.cell? ⟨b, o + 5, none⟩ = some (.slice p n c) := hz.2.2.1 5 _ rfl
  have x0 : z.cell? ⟨y.heap.size, 0, none⟩ = some (.pointer (some ⟨bb, 0, none⟩)) := S1.out.tl.tl.cell 0
  have x1 : z.cell? ⟨y.heap.size + 1, 5, none⟩ = some (.slice (some ⟨b, o, none⟩) 1 cs) := S1.out.tl.cell 5
  have x2 : z.cell? ⟨y.heap.size + 1 + 1, 0, none⟩ = some (.int .i64 t) := S1.out.cell 0
  have HC := Lib.hid (loop_any (k := k) (u := u) (t := t) (p := p) (n := n) (c := c) IH (H1.out.up (below_drewN (Below.refl z.heap.size z) 1)) hlen (RV.mono (w := z) (w' := z.drewN 1) (E := P) (fun b h => h) (fun b _ _ => rfl) hrv))
  obtain ⟨R, hR⟩ : ∃ R, layF pt (ss.length : Nat) (ss.length + 1) = R := ⟨_, rfl⟩
  rw [hR] at HC
  have HRR := Lib.hid hR
  unfold nodeC at HC
  clear hz HB S0 HCC HK S1 HRV hrv hR IH
  go_region_law (go_simp; go_at_call 79; refine HC.out.mono ?_; rintro _ y5 ⟨rfl, h5, hk5⟩)
  all_goals
    simp only [Act.put, List.getElem_toArray, List.getElem_cons_zero, List.getElem_cons_succ, List.setIfInBounds_toArray, List.set_cons_zero, List.set_cons_succ]
    obtain ⟨sl5, zs5, h6, h7⟩ := h5
    have H6 := Lib.hid h6
    have H7 := Lib.hid h7
    have HK6 := Lib.hid fun b hp => (hk5 b hp).trans (HK1.out b hp)
    clear h6 hk5 HC H1 HK1 d0 d1 d2 d3 d4 d5 x0 x1 x2 h7
    refine at_worldQ (fun x => BB B P w0 x bb (ss ++ zs5) sl5 ∧ ∀ b, P b → x.heap[b]? = y.heap[b]?) ⟨H6.out, HK6.out⟩ fun x hx => ?_
    have H9 := Lib.hid hx
    clear hx H6 HK6
    go_wp2_with fail
    go_ret
    rw [HRR.out]
    exact ⟨rfl, ⟨_, _, H9.out.1, H7.out⟩, H9.out.2⟩
end Go.Proofs.YthglciccejholaaDoor
end
section
/- Package nfa. -/
namespace Go.Proofs.YthglciccejholaaDoor
set_option linter.unusedSimpArgs false
set_option linter.unusedVariables false
set_option maxRecDepth 100000
open Go.RowKit
/- What is laid of a star, of a plus. -/
set_option maxHeartbeats 8000000 in
theorem lay_starP {B : Nat} {P : Nat → Prop} {w0 y : World} {bb : Nat} {ss : List Nq} {sl : Value} {pt : RT} {k : Int} {u us : Nat → Int} {t : Int} {p : Option Addr} {n c b o cs : Nat} (IH : LayOK pt) (h : BB B P w0 y bb ss sl) (hlen : ss.length + 1 + sz pt * 8192 ≤ 900000000) (hP : P b) (hv : RV P y pt (.agg (nodeC k u (.slice p n c))))
    (hc : ∀ j v, (nodeC k u (.slice p n c))[j]? = some v → y.cell? ⟨b, o + j, none⟩ = some v) :
    Calls Tryd.prog 39 #[.pointer (some ⟨bb, 0, none⟩), .agg (nodeC 5 us (.slice (some ⟨b, o, none⟩) 1 cs)), .int .i64 t] y (LayPost B P w0 y bb ss (⟨uZ, -1, [t, (layF pt (ss.length : Nat) (ss.length + 1)).2], -1⟩ :: (layF pt (ss.length : Nat) (ss.length + 1)).1, (ss.length : Nat))) := by
  have hbl := blk_lt (hc 0 _ rfl)
  have hb0 := (((Below.refl y.heap.size y).alloc (Nat.le_refl _) (.cells #[.pointer (some ⟨bb, 0, none⟩)] 118)).alloc (by simp) (.cells (nodeC 5 us (.slice (some ⟨b, o, none⟩) 1 cs)) 27)).alloc (by simp; omega) (.cells #[.int .i64 t] 3)
  have HB := Lib.hid (h.up hb0)
  have HK := Lib.hid fun b (hp : P b) => hb0.block b (h.pr b hp).1
  have HCC := Lib.hid fun j v hv => (cell_same (hb0.block b hbl) _).trans (hc j v hv)
  have HRV := Lib.hid (hv.mono (E := P) (fun b h => h) (fun b hp _ => hb0.block b (h.pr b hp).1))
  have S0 := Lib.hid ((((Sb.start y).alloc (.cells #[.pointer (some ⟨bb, 0, none⟩)] 118)).alloc (.cells (nodeC 5 us (.slice (some ⟨b, o, none⟩) 1 cs)) 27)).alloc (.cells #[.int .i64 t] 3))
  clear h hc hb0 hv
  unfold nodeC at *
  go_enter Tryd.func39, Tryd.ntmps39
  go_upto_region 14 with fail
  have z1 : (y.alloc (.cells #[.pointer (some ⟨bb, 0, none⟩)] 118)).heap.size = y.heap.size + 1 := by simp
  have z2 : ((y.alloc (.cells #[.pointer (some ⟨bb, 0, none⟩)] 118)).alloc (.cells #[.int .i64 5, .int .u64 (us 0), .int .u64 (us 1), .int .u64 (us 2), .int .u64 (us 3), .slice (some ⟨b, o, none⟩) 1 cs] 27)).heap.size = y.heap.size + 1 + 1 := by simp
  rw [z1, z2] at S0
  clear z1 z2
  refine at_world (fun z => BB B P w0 z bb ss sl ∧ Sb y z [(y.heap.size + 1 + 1, .cells #[.int .i64 t] 3), (y.heap.size + 1, .cells #[.int .i64 5, .int .u64 (us 0), .int .u64 (us 1), .int .u64 (us 2), .int .u64 (us 3), .slice (some ⟨b, o, none⟩) 1 cs] 27), (y.heap.size, .cells #[.pointer (some ⟨bb, 0, none⟩)] 118)] ∧ (∀ j v, (#[.int .i64 k, .int .u64 (u 0), .int .u64 (u 1), .int .u64 (u 2), .int .u64 (u 3), .slice p n c] : Array Value)[j]? = some v → z.cell? ⟨b, o + j, none⟩ = some v) ∧ (∀ b, P b → z.heap[b]? = y.heap[b]?) ∧ RV P z pt (.agg #[.int .i64 k, .int .u64 (u 0), .int .u64 (u 1), .int .u64 (u 2), .int .u64 (u 3), .slice p n c])) ⟨HB.out, S0.out, HCC.out, HK.out, HRV.out⟩ fun z hz => ?_
  have H1 := Lib.hid hz.1
  have S1 := Lib.hid hz.2.1
  have HK1 := Lib.hid hz.2.2.2.1
  have hrv := hz.2.2.2.2
  have d0 : z.cell? ⟨b, o, none⟩ = some (.int .i64 k) := hz.2.2.1 0 _ rfl
  have d1 : z.cell? ⟨b, o + 1, none⟩ = some (.int .u64 (u 0)) := hz.2.2.1 1 _ rfl
  have d2 : z.cell? ⟨b, o + 2, none⟩ = some (.int .u64 (u 1)) := hz.2.2.1 2 _ rfl
  have d3 : z.cell? ⟨b, o + 3, none⟩ = some (.int .u64 (u 2)) := hz.2.2.1 3 _ rfl
  have d4 : z.cell? ⟨b, o + 4, none⟩ = some (.int .u64 (u 3)) := hz.2.2.1 4 _ rfl
  have d5 : z.cell? ⟨b, o + 5, none⟩ = some (.slice p n c) := hz.2.2.1 5 _ rfl
  have x0 : z.cell? ⟨y.heap.size, 0, none⟩ = some (.pointer (some ⟨bb, 0, none⟩)) := S1.out.tl.tl.cell 0
  have x1 : z.cell? ⟨y.heap.size + 1, 5, none⟩ = some (.slice (some ⟨b, o, none⟩) 1 cs) := S1.out.tl.cell 5
  have x2 : z.cell? ⟨y.heap.size + 1 + 1, 0, none⟩ = some (.int .i64 t) := S1.out.cell 0
  have HC := Lib.hid (loop_any (k := k) (u := u) (t := t) (p := p) (n := n) (c := c) IH (H1.out.up (below_drewN (Below.refl z.heap.size z) 1)) hlen (RV.mono (w := z) (w' := z.drewN 1) (E := P) (fun b h => h) (fun b _ _ => rfl) hrv))
  obtain ⟨R, hR⟩ : ∃ R, layF pt (ss.length : Nat) (ss.length + 1) = R := ⟨_, rfl⟩
  rw [hR] at HC
  have HRR := Lib.hid hR
  unfold nodeC at HC
  clear hz HB S0 HCC HK S1 HRV hrv hR IH
  go_region_law (go_simp; go_at_call 79; refine HC.out.mono ?_; rintro _ y5 ⟨rfl, h5, hk5⟩)
  all_goals
    simp only [Act.put, List.getElem_toArray, List.getElem_cons_zero, List.getElem_cons_succ, List.setIfInBounds_toArray, List.set_cons_zero, List.set_cons_succ]
    obtain ⟨sl5, zs5, h6, h7⟩ := h5
    have H6 := Lib.hid h6
    have H7 := Lib.hid h7
    have HK6 := Lib.hid fun b hp => (hk5 b hp).trans (HK1.out b hp)
    clear h6 hk5 HC H1 HK1 d0 d1 d2 d3 d4 d5 x0 x1 x2 h7
    refine at_worldQ (fun x => BB B P w0 x bb (ss ++ zs5) sl5 ∧ ∀ b, P b → x.heap[b]? = y.heap[b]?) ⟨H6.out, HK6.out⟩ fun x hx => ?_
    have H9 := Lib.hid hx
    clear hx H6 HK6
    go_wp2_with fail
    go_ret
    rw [HRR.out]
    exact ⟨rfl, ⟨_, _, H9.out.1, H7.out⟩, H9.out.2⟩
end Go.Proofs.YthglciccejholaaDoor
end
section
/- Package nfa. -/
namespace Go.Proofs.YthglciccejholaaDoor
set_option linter.unusedSimpArgs false
set_option linter.unusedVariables false
set_option maxRecDepth 100000
open Go.RowKit
/- What is laid of any pattern that may be. -/
theorem mayL_mem : ∀ {ps : List RT}, mayL ps = true → ∀ q ∈ ps, mayB q = true
  | [], _, q, hq => by cases hq
  | a :: r, h, q, hq => by
    rw [mayL, Bool.and_eq_true] at h
    rcases List.mem_cons.1 hq with rfl | hq
    · exact h.1
    · exact mayL_mem h.2 q hq
theorem sz_mem : ∀ {ps : List RT} {q : RT}, q ∈ ps → sz q ≤ szL ps
  | a :: r, q, hq => by
    rw [szL]
    rcases List.mem_cons.1 hq with rfl | hq
    · omega
    · have := sz_mem hq; omega
theorem rv_form' {D : Nat → Prop} {w : World} {k : Int} {u : Nat → Int} {ps : List RT} {v : Value} (h : RV D w (.mk k u ps) v) : ∃ p c, v = .agg (nodeC k u (.slice p ps.length c)) := by
  obtain ⟨p, c, rfl, _⟩ := h.parts
  exact ⟨p, c, rfl⟩
theorem one_part {ps : List RT} (h : ps.length = 1) : ∃ q, ps = [q] := by
  match ps, h with
  | [q], _ => exact ⟨q, rfl⟩
theorem layC_one (q : RT) (b : Int) (n : Nat) : layC [q] b n = layF q b n := by
  simp [layC]
theorem lay_all : ∀ (n : Nat) (t : RT), sz t ≤ n → n ≤ 4090 → mayB t = true → LayOK t := by
  intro n
  induction n with
  | zero => intro t h; have := sz_pos t; omega
  | succ n ih =>
    intro t hsz hn hmay
    obtain ⟨k, u, ps⟩ := t
    intro B P w0 y bb zs sl b v h hlen hv
    obtain ⟨p, c, rfl⟩ := rv_form' hv
    rw [sz] at hsz hlen
    have hmp : mayL ps = true ∧ fitsB k ps.length = true := by
      rw [mayB, Bool.and_eq_true, Bool.and_eq_true] at hmay
      exact ⟨hmay.2, hmay.1.1⟩
    have IH : ∀ q ∈ ps, LayOK q := fun q hq => ih q (by have := sz_mem hq; omega) (by omega) (mayL_mem hmp.1 q hq)
    have hf := hmp.2
    unfold fitsB at hf
    rw [layF]
    by_cases h1 : k = 1
    · subst h1
      rw [if_pos rfl]
      exact lay_empty h
    rw [if_neg h1]
    by_cases h2 : k = 2
    · subst h2
      rw [if_pos rfl]
      exact lay_setP h (by omega)
    rw [if_neg h2]
    by_cases h3 : k = 3
    · subst h3
      rw [if_pos rfl]
      have hne : ps ≠ [] := by
        intro e; subst e; simp at hf
      exact lay_catP hne IH h (by omega) (by omega) hv
    rw [if_neg h3]
    by_cases h4 : k = 4
    · subst h4
      rw [if_pos rfl]
      exact lay_altP IH h (by omega) (by omega) hv
    rw [if_neg h4]
    by_cases h0 : k = 0
    · subst h0
      rw [if_neg (by decide), if_neg (by decide), if_neg (by decide)]
      exact lay_none h (by omega)
    have h567 : (k = 5 ∨ k = 6 ∨ k = 7) ∧ ps.length = 1 := by
      rw [if_neg (by rintro (h | h | h) <;> contradiction), if_neg (by rintro (h | h) <;> contradiction)] at hf
      by_cases hk : k = 5 ∨ k = 6 ∨ k = 7
      · rw [if_pos hk] at hf
        exact ⟨hk, by simpa using hf⟩
      · rw [if_neg hk] at hf; cases hf
    obtain ⟨q, rfl⟩ := one_part h567.2
    have IHq : LayOK q := IH q (List.mem_cons_self ..)
    obtain ⟨bq, oq, rfl, hPq, hx⟩ := rv_part hv (by simp)
    obtain ⟨k2, u2, p2, n2, c2, hvq, hc⟩ := hx 0 (by simp)
    rw [szL, szL] at hsz hlen
    have hc' : ∀ j v, (nodeC k2 u2 (.slice p2 n2 c2))[j]? = some v → y.cell? ⟨bq, oq + j, none⟩ = some v := fun j v hj => by
      have := hc j v hj
      rwa [Nat.zero_mul, Nat.add_zero] at this
    rw [layC_one, layC_one]
    rcases h567.1 with rfl | rfl | rfl
    · rw [if_pos rfl]
      exact lay_starP IHq h (by omega) hPq hvq hc'
    · rw [if_neg (by decide), if_pos rfl]
      exact lay_plusP IHq h (by omega) hPq hvq hc'
    · rw [if_neg (by decide), if_neg (by decide), if_pos rfl]
      exact lay_maybeP IHq h (by omega) hPq hvq hc'
end Go.Proofs.YthglciccejholaaDoor
end
section
/- Package nfa. -/
namespace Go.Proofs.YthglciccejholaaDoor
set_option linter.unusedSimpArgs false
set_option linter.unusedVariables false
set_option maxRecDepth 100000
open Go.RowKit
/- matchesSome, whatever pattern it is of. -/
def MsOK (t : RT) : Prop := ∀ {D : Nat → Prop} {w : World} {v : Value}, (∀ b, D b → b < w.heap.size) → RV D w t v → Calls Tryd.prog 75 #[v] w fun e w' => e = .returned (.bool (msF t)) ∧ Below w.heap.size w w'
set_option maxHeartbeats 4000000 in
theorem none_any {t : RT} {D : Nat → Prop} {w : World} {v : Value} (h : MsOK t) (hD : ∀ b, D b → b < w.heap.size) (hv : RV D w t v) : Calls Tryd.prog 109 #[v] w fun e w' => e = .returned (.bool (!msF t)) ∧ Below w.heap.size w w' := by
  obtain ⟨k, u, p, n, c, rfl⟩ := hv.form
  have hb1 := (Below.refl w.heap.size w).alloc (Nat.le_refl _) (.cells (nodeC k u (.slice p n c)) 27)
  have HC := Lib.hid (h (w := w.alloc (.cells (nodeC k u (.slice p n c)) 27)) (fun b hb => Nat.lt_of_lt_of_le (hD b hb) hb1.size) (hv.mono (fun b h => h) (fun b hb _ => hb1.block b (hD b hb))))
  have HB := Lib.hid hb1
  obtain ⟨m, hm⟩ : ∃ m, msF t = m := ⟨_, rfl⟩
  rw [hm] at HC ⊢
  clear h hv hD hb1 hm
  unfold nodeC at *
  go_enter Tryd.func109, Tryd.ntmps109
  go_wp2_with fail
  refine HC.out.mono ?_
  rintro _ y1 ⟨rfl, hb1⟩
  have HB2 := Lib.hid (HB.out.trans (hb1.mono HB.out.size))
  clear hb1 HC HB
  go_wp2_with fail
  go_ret
  exact ⟨rfl, HB2.out⟩
set_option maxHeartbeats 4000000 in
theorem some_1 (u : Nat → Int) (p : Option Addr) (n c : Nat) (w : World) : Calls Tryd.prog 75 #[.agg (nodeC 1 u (.slice p n c))] w fun e w' => e = .returned (.bool true) ∧ Below w.heap.size w w' := by
  have S0 := Lib.hid (((Below.refl w.heap.size w).alloc (Nat.le_refl _) (.cells (nodeC 1 u (.slice p n c)) 27)))
  unfold nodeC at *
  go_enter Tryd.func75, Tryd.ntmps75
  go_wp2_with fail
  go_ret
  exact ⟨rfl, S0.out⟩
set_option maxHeartbeats 4000000 in
theorem some_7 (u : Nat → Int) (p : Option Addr) (n c : Nat) (w : World) : Calls Tryd.prog 75 #[.agg (nodeC 7 u (.slice p n c))] w fun e w' => e = .returned (.bool true) ∧ Below w.heap.size w w' := by
  have S0 := Lib.hid (((Below.refl w.heap.size w).alloc (Nat.le_refl _) (.cells (nodeC 7 u (.slice p n c)) 27)))
  unfold nodeC at *
  go_enter Tryd.func75, Tryd.ntmps75
  go_wp2_with fail
  go_ret
  exact ⟨rfl, S0.out⟩
set_option maxHeartbeats 4000000 in
theorem some_3 (R : Bool) (u : Nat → Int) (p : Option Addr) (n c : Nat) (w : World) (HC : Hid (∀ z, Below w.heap.size w z → Calls Tryd.prog 108 #[.slice p n c, .func (.func 109) #[] #[]] z fun e z' => e = .returned (.bool R) ∧ Below z.heap.size z z')) : Calls Tryd.prog 75 #[.agg (nodeC 3 u (.slice p n c))] w fun e w' => e = .returned (.bool (!R)) ∧ Below w.heap.size w w' := by
  have S0 := Lib.hid (((Below.refl w.heap.size w).alloc (Nat.le_refl _) (.cells (nodeC 3 u (.slice p n c)) 27)))
  unfold nodeC at *
  go_enter Tryd.func75, Tryd.ntmps75
  go_wp2_with fail
  refine (HC.out _ S0.out).mono ?_
  rintro _ y1 ⟨rfl, hb1⟩
  have HB2 := Lib.hid (S0.out.trans (hb1.mono S0.out.size))
  clear hb1 HC S0
  go_wp2_with fail
  go_ret
  exact ⟨rfl, HB2.out⟩
set_option maxHeartbeats 4000000 in
theorem some_6 (R : Bool) (u : Nat → Int) (p : Option Addr) (n c : Nat) (w : World) (HC : Hid (∀ z, Below w.heap.size w z → Calls Tryd.prog 108 #[.slice p n c, .func (.func 109) #[] #[]] z fun e z' => e = .returned (.bool R) ∧ Below z.heap.size z z')) : Calls Tryd.prog 75 #[.agg (nodeC 6 u (.slice p n c))] w fun e w' => e = .returned (.bool (!R)) ∧ Below w.heap.size w w' := by
  have S0 := Lib.hid (((Below.refl w.heap.size w).alloc (Nat.le_refl _) (.cells (nodeC 6 u (.slice p n c)) 27)))
  unfold nodeC at *
  go_enter Tryd.func75, Tryd.ntmps75
  go_wp2_with fail
  refine (HC.out _ S0.out).mono ?_
  rintro _ y1 ⟨rfl, hb1⟩
  have HB2 := Lib.hid (S0.out.trans (hb1.mono S0.out.size))
  clear hb1 HC S0
  go_wp2_with fail
  go_ret
  exact ⟨rfl, HB2.out⟩
set_option maxHeartbeats 4000000 in
theorem some_4 (R : Bool) (u : Nat → Int) (p : Option Addr) (n c : Nat) (w : World) (HC : Hid (∀ z, Below w.heap.size w z → Calls Tryd.prog 108 #[.slice p n c, .func (.func 75) #[] #[]] z fun e z' => e = .returned (.bool R) ∧ Below z.heap.size z z')) : Calls Tryd.prog 75 #[.agg (nodeC 4 u (.slice p n c))] w fun e w' => e = .returned (.bool R) ∧ Below w.heap.size w w' := by
  have S0 := Lib.hid (((Below.refl w.heap.size w).alloc (Nat.le_refl _) (.cells (nodeC 4 u (.slice p n c)) 27)))
  unfold nodeC at *
  go_enter Tryd.func75, Tryd.ntmps75
  go_wp2_with fail
  refine (HC.out _ S0.out).mono ?_
  rintro _ y1 ⟨rfl, hb1⟩
  have HB2 := Lib.hid (S0.out.trans (hb1.mono S0.out.size))
  clear hb1 HC S0
  go_wp2_with fail
  go_ret
  exact ⟨rfl, HB2.out⟩
theorem msome_any : ∀ (n : Nat) (t : RT), sz t ≤ n → n ≤ 1000000 → mayB t = true → MsOK t := by
  intro n
  induction n with
  | zero => intro t h; have := sz_pos t; omega
  | succ n ih =>
    intro t hsz hn hmay
    obtain ⟨k, u, ps⟩ := t
    intro D w v hD hv
    obtain ⟨p, c, rfl⟩ := rv_form' hv
    rw [sz] at hsz
    rw [mayB, Bool.and_eq_true, Bool.and_eq_true] at hmay
    have hf := hmay.1.1
    have IH : ∀ q ∈ ps, MsOK q := fun q hq => ih q (by have := sz_mem hq; omega) (by omega) (mayL_mem hmay.2 q hq)
    have hl := len_szL ps
    have H66 : ∀ z, Below w.heap.size w z → Calls Tryd.prog 108 #[.slice p ps.length c, .func (.func 109) #[] #[]] z fun e z' => e = .returned (.bool (ps.any fun q => !msF q)) ∧ Below z.heap.size z z' := fun z hz => contains_66 (D := D) (fun q => !msF q) (fun b h => Nat.lt_of_lt_of_le (hD b h) hz.size) (by omega) (hv.mono (fun b h => h) (fun b hb _ => hz.block b (hD b hb))) (Lib.hid fun q hq y v hy hvq => none_any (IH q hq) (fun b h => Nat.lt_of_lt_of_le (hD b h) (Nat.le_trans hz.size hy.size)) hvq)
    have H53 : ∀ z, Below w.heap.size w z → Calls Tryd.prog 108 #[.slice p ps.length c, .func (.func 75) #[] #[]] z fun e z' => e = .returned (.bool (ps.any msF)) ∧ Below z.heap.size z z' := fun z hz => contains_53 (D := D) msF (fun b h => Nat.lt_of_lt_of_le (hD b h) hz.size) (by omega) (hv.mono (fun b h => h) (fun b hb _ => hz.block b (hD b hb))) (Lib.hid fun q hq y v hy hvq => IH q hq (fun b h => Nat.lt_of_lt_of_le (hD b h) (Nat.le_trans hz.size hy.size)) hvq)
    have hall : (!(ps.any fun q => !msF q)) = msAll ps := by
      rw [msAll_eq, Bool.eq_iff_iff]; simp
    unfold fitsB at hf
    rw [msF]
    by_cases h0 : k = 0
    · subst h0
      rw [if_pos rfl]
      exact some_none u p ps.length c w
    rw [if_neg h0]
    by_cases h2 : k = 2
    · subst h2
      rw [if_pos rfl]
      exact some_set u p ps.length c w
    rw [if_neg h2]
    by_cases h3 : k = 3
    · subst h3
      rw [if_pos (.inl rfl), ← hall]
      exact some_3 _ u p ps.length c w (Lib.hid H66)
    by_cases h6 : k = 6
    · subst h6
      rw [if_pos (.inr rfl), ← hall]
      exact some_6 _ u p ps.length c w (Lib.hid H66)
    rw [if_neg (by rintro (h | h) <;> contradiction)]
    by_cases h4 : k = 4
    · subst h4
      rw [if_pos rfl, msAny_eq]
      exact some_4 _ u p ps.length c w (Lib.hid H53)
    rw [if_neg h4]
    by_cases h1 : k = 1
    · subst h1; exact some_1 u p ps.length c w
    by_cases h5 : k = 5
    · subst h5; exact some_star u p ps.length c w
    by_cases h7 : k = 7
    · subst h7; exact some_7 u p ps.length c w
    exfalso
    rw [if_neg (by rintro (h | h | h) <;> contradiction), if_neg (by rintro (h | h) <;> contradiction), if_neg (by rintro (h | h | h) <;> contradiction)] at hf
    cases hf
end Go.Proofs.YthglciccejholaaDoor
end
