/- Package grams. -/
import Derived.Test.YtpmkdpjcpimhkaaProg
import Derived.Test.YtpmkdpjcpimhkaaHd
import Derived.Deep.SlicePairs
import Derived.Deep.Slices
import Derived.Laws.IdiomArrays
import Derived.OpenShut
import Derived.WideBlind
import Derived.Great.BuildSlice
import Derived.WalkKit
import Derived.Maps.OwnSet
import Derived.Maps.OwnOps
import Derived.Maps.Own
import Derived.DeepKeys5
import Derived.BigFrame
import Derived.WalkMore
import Derived.ScopeJumps
import Derived.StillTailTactics
import Derived.Stop.BytesEq
import Derived.WalkLawsBesides
import Derived.WalkSpells
import Derived.Outline
import Derived.Lib.Walk
import Derived.Lib.Hide
import Derived.Lib.Slices
import Derived.Lib.Strings
import Derived.RegionTactic
import Derived.LoopTactic
import Derived.Below
import Derived.IntWalk
import Derived.Deep.QuietTactic
import Derived.BigQuiet
import Derived.Deep.MidRow
import Derived.Maps.AppendAt
import Derived.Laws.Rows
import Derived.Laws.Tables
import Derived.Deep.WholeRow
import Derived.Deep.Cut
import Derived.Deep.CutRange
import Derived.Lib.SliceRun
import Derived.Laws.MakeOwn
import Derived.Deep.RegionLaw
import Derived.Deep.RegionLawGrows
import Derived.Deep.RegionHeld3
import Derived.RegionCalls
import Derived.Deep.RegionWith
import Derived.Deep.Light
import Derived.Laws.CopyOwn
import Derived.Laws.ResultCell
namespace Go.Proofs.Ytpmkdpjcpimhkaa
set_option linter.unusedSimpArgs false
set_option linter.unusedVariables false
set_option maxRecDepth 100000
open Go.RowKit
/- Closures over productions; slices.ContainsFunc over them. -/
theorem box_cells (w : World) (a b c : Value) (t : TypeId) : (w.alloc (.cells #[a, b, c] t)).cell? ⟨w.heap.size, 0, none⟩ = some a ∧ (w.alloc (.cells #[a, b, c] t)).cell? ⟨w.heap.size, 1, none⟩ = some b ∧ (w.alloc (.cells #[a, b, c] t)).cell? ⟨w.heap.size, 2, none⟩ = some c :=
  ⟨(cell_of_row _ w.heap.size 0 _ t (0, 0) (heap_alloc_last w _)).trans rfl, (cell_of_row _ w.heap.size 1 _ t (0, 0) (heap_alloc_last w _)).trans rfl, (cell_of_row _ w.heap.size 2 _ t (0, 0) (heap_alloc_last w _)).trans rfl⟩
set_option maxHeartbeats 1000000 in
theorem clo31 (q : Pr) (a : Option Addr) (d : Nat) (w : World) : Calls Try.prog 31 #[.agg #[.int .i64 q.hd, .slice a q.bd.length d, .bool q.rt]] w fun e w' => e = .returned (.bool (decide (8 < q.bd.length))) ∧ Below w.heap.size w w' := by
  generalize q.bd.length = n
  by_cases h : 8 < n
  · have h1 : (8 : Int) < (n : Int) := by omega
    rw [decide_eq_true h]
    go_enter Try.func31, Try.ntmps31
    go_wp2
    go_ret
    exact ⟨rfl, (Below.refl _ _).alloc (Nat.le_refl _) _⟩
  · have h1 : ¬ (8 : Int) < (n : Int) := by omega
    rw [decide_eq_false h]
    go_enter Try.func31, Try.ntmps31
    go_wp2
    go_ret
    exact ⟨rfl, (Below.refl _ _).alloc (Nat.le_refl _) _⟩
set_option maxHeartbeats 1000000 in
theorem clo32 (q : Pr) (a : Option Addr) (d : Nat) (w : World) : Calls Try.prog 32 #[.agg #[.int .i64 q.hd, .slice a q.bd.length d, .bool q.rt]] w fun e w' => e = .returned (.bool (decide (q.bd.length = 0))) ∧ Below w.heap.size w w' := by
  generalize q.bd.length = n
  by_cases h : n = 0
  · rw [decide_eq_true h]
    have h1 : ((n : Int) == 0) = true := by simp [h]
    go_enter Try.func32, Try.ntmps32
    go_wp2
    go_ret
    exact ⟨rfl, (Below.refl _ _).alloc (Nat.le_refl _) _⟩
  · have h1 : ((n : Int) == 0) = false := by simp; omega
    rw [decide_eq_false h]
    go_enter Try.func32, Try.ntmps32
    go_wp2
    go_ret
    exact ⟨rfl, (Below.refl _ _).alloc (Nat.le_refl _) _⟩
set_option maxHeartbeats 4000000 in
theorem clo57 {D : Nat → Prop} {w : World} {p q : Pr} {a pa : Option Addr} {d pc b : Nat} (hD : ∀ b, D b → b < w.heap.size) (h0 : w.cell? ⟨b, 0, none⟩ = some (.int .i64 p.hd)) (h1 : w.cell? ⟨b, 1, none⟩ = some (.slice pa p.bd.length pc)) (hp : IV D w p.bd (.slice pa p.bd.length pc)) (hq : IV D w q.bd (.slice a q.bd.length d)) (hl : p.bd.length ≤ 9223372036854775806) :
    Calls Try.prog 57 #[.agg #[.int .i64 q.hd, .slice a q.bd.length d, .bool q.rt], .pointer (some ⟨b, 0, none⟩)] w fun e w' => e = .returned (.bool (decide (p.hd = q.hd) && decide (p.bd = q.bd))) ∧ Below w.heap.size w w' := by
  have hb := blk_lt h0
  have hw0 := (Below.refl w.heap.size w).alloc (Nat.le_refl _) (.cells #[.int .i64 q.hd, .slice a q.bd.length d, .bool q.rt] 38)
  have HW := Lib.hid hw0
  have c0 := (cell_same (hw0.block b hb) 0).trans h0
  have c1 := (cell_same (hw0.block b hb) 1).trans h1
  obtain ⟨d0, d1, d2⟩ := box_cells w (.int .i64 q.hd) (.slice a q.bd.length d) (.bool q.rt) 38
  have H1 := Lib.hid (equal_any hl (fun b hb => by have := hD b hb; simp; omega) (fun b hb => by have := hD b hb; simp; omega) (hp.mono (fun _ h => h) (fun b hb _ => hw0.block b (hD b hb))) (hq.mono (fun _ h => h) (fun b hb _ => hw0.block b (hD b hb))))
  obtain ⟨R, hR⟩ : ∃ R, decide (p.bd = q.bd) = R := ⟨_, rfl⟩
  rw [hR] at H1 ⊢
  generalize p.hd = x at *
  generalize q.hd = y at *
  generalize p.bd.length = n1 at *
  generalize q.bd.length = n2 at *
  clear h0 h1 hp hq hl hw0 hR
  by_cases hxy : x = y
  · have e : (x == y) = true := by simp [hxy]
    rw [decide_eq_true hxy, Bool.true_and]
    clear hxy
    go_enter Try.func57, Try.ntmps57
    go_wp2_with fail
    refine H1.out.mono ?_
    rintro _ w1 ⟨rfl, hb1⟩
    have HB := Lib.hid (HW.out.trans (hb1.mono HW.out.size))
    clear hb1
    go_wp2_with fail
    go_ret
    exact ⟨rfl, HB.out⟩
  · have e : (x == y) = false := by simp [hxy]
    rw [decide_eq_false hxy, Bool.false_and]
    clear hxy
    go_enter Try.func57, Try.ntmps57
    go_wp2_with fail
    go_ret
    exact ⟨rfl, HW.out⟩
set_option maxHeartbeats 4000000 in
theorem index59_31 {D : Nat → Prop} {w : World} {l : List Pr} {p : Option Addr} {c : Nat} {f : Pr → Bool} (hg : GM D w l p)
    (hf : ∀ (z : World) (q : Pr) (a : Option Addr) (d : Nat), Below w.heap.size w z → q ∈ l → IV D z q.bd (.slice a q.bd.length d) → Calls Try.prog 31 #[.agg #[.int .i64 q.hd, .slice a q.bd.length d, .bool q.rt]] z fun e z' => e = .returned (.bool (f q)) ∧ Below z.heap.size z z') :
    Calls Try.prog 59 #[.slice p l.length c, .func (.func 31) #[] #[]] w fun e w' => ∃ r : Int, e = .returned (.int .i64 r) ∧ decide (0 ≤ r) = l.any f ∧ Below w.heap.size w w' := by
  have HG := Lib.hid hg
  have HF := Lib.hid hf
  have hl := hg.nl
  clear hg hf
  go_enter Try.func59, Try.ntmps59
  go_wp2_with fail
  go_loopw [8] (fun i wr => ∃ j : Nat, i = .int .i64 (j : Nat) ∧ j ≤ l.length ∧ Hid ((l.take j).any f = false) ∧ Hid (Below w.heap.size w wr)) (fun i _ => l.length - (intOf i).toNat)
  case atStart => exact ⟨0, rfl, by omega, Lib.hid (by simp), Lib.hid (Below.refl _ _)⟩
  case round =>
  obtain ⟨j, rfl, hj, HA, HB⟩ := hrel
  obtain ⟨wo, rfl⟩ : ∃ wo : World, wo = wr := ⟨_, rfl⟩
  by_cases hlt : j < l.length
  · have hltI : (j : Int) < (l.length : Int) := by omega
    have hjI : ¬ (j : Int) < 0 := by omega
    obtain ⟨bb, o, q, d, rfl, hbb, c0, c1, c2, hiv, hbl, hmem⟩ := (HG.out.up HB.out).at hlt
    have hst := any_take f l j hlt
    have hyes := any_yes (f := f) hlt
    rw [HA.out, Bool.false_or] at hst
    obtain ⟨x, hxx⟩ : ∃ x, l[j] = x := ⟨_, rfl⟩
    rw [hxx] at c0 c1 c2 hst hyes hiv hbl hmem
    have H2 := Lib.hid (HF.out wo x q d HB.out hmem hiv)
    generalize f x = v at H2 hst hyes
    have HST := Lib.hid hst
    have HY := Lib.hid hyes
    clear hxx hst hyes hiv hbl hmem
    go_wp2_with fail
    refine H2.out.mono ?_
    rintro _ w1 ⟨rfl, hb1⟩
    have HB2 := Lib.hid (HB.out.trans (hb1.mono HB.out.size))
    clear hb1 HB
    cases v with
    | true =>
      have h0 : (0 : Int) ≤ (j : Int) := by omega
      go_wp2_with fail
      go_ret
      exact ⟨_, rfl, by rw [decide_eq_true h0, HY.out (by trivial)], HB2.out⟩
    | false =>
      go_wp2_with fail
      go_roundw
      case rel => exact ⟨j + 1, by go_num, by omega, HST, HB2⟩
      case measure => simp [intOf]; omega
  · obtain rfl : j = l.length := by omega
    have hltI : ¬ (l.length : Int) < (l.length : Int) := by omega
    have hR := HA.out
    rw [List.take_length] at hR
    have HR := Lib.hid hR
    clear hR hlt
    go_wp2_with fail
    go_ret
    exact ⟨-1, rfl, by rw [HR.out]; rfl, HB.out⟩
set_option maxHeartbeats 1000000 in
theorem contains30_31 {D : Nat → Prop} {w : World} {l : List Pr} {p : Option Addr} {c : Nat} {f : Pr → Bool} (hg : GM D w l p)
    (hf : ∀ (z : World) (q : Pr) (a : Option Addr) (d : Nat), Below w.heap.size w z → q ∈ l → IV D z q.bd (.slice a q.bd.length d) → Calls Try.prog 31 #[.agg #[.int .i64 q.hd, .slice a q.bd.length d, .bool q.rt]] z fun e z' => e = .returned (.bool (f q)) ∧ Below z.heap.size z z') :
    Calls Try.prog 30 #[.slice p l.length c, .func (.func 31) #[] #[]] w fun e w' => e = .returned (.bool (l.any f)) ∧ Below w.heap.size w w' := by
  have H1 := Lib.hid (index59_31 (c := c) hg hf)
  generalize l.any f = R at H1 ⊢
  generalize l.length = n at H1 ⊢
  clear hg hf
  go_enter Try.func30, Try.ntmps30
  go_wp2_with fail
  refine H1.out.mono ?_
  rintro _ w1 ⟨r, rfl, hr, hb⟩
  have HR := Lib.hid hr
  have HB := Lib.hid hb
  clear hr hb
  by_cases h : 0 ≤ r
  · go_wp2_with fail
    go_ret
    exact ⟨vbool6 (by rw [← HR.out, decide_eq_true (by omega)]), HB.out⟩
  · go_wp2_with fail
    go_ret
    exact ⟨vbool6 (by rw [← HR.out, decide_eq_false (by omega)]), HB.out⟩
set_option maxHeartbeats 4000000 in
theorem index59_32 {D : Nat → Prop} {w : World} {l : List Pr} {p : Option Addr} {c : Nat} {f : Pr → Bool} (hg : GM D w l p)
    (hf : ∀ (z : World) (q : Pr) (a : Option Addr) (d : Nat), Below w.heap.size w z → q ∈ l → IV D z q.bd (.slice a q.bd.length d) → Calls Try.prog 32 #[.agg #[.int .i64 q.hd, .slice a q.bd.length d, .bool q.rt]] z fun e z' => e = .returned (.bool (f q)) ∧ Below z.heap.size z z') :
    Calls Try.prog 59 #[.slice p l.length c, .func (.func 32) #[] #[]] w fun e w' => ∃ r : Int, e = .returned (.int .i64 r) ∧ decide (0 ≤ r) = l.any f ∧ Below w.heap.size w w' := by
  have HG := Lib.hid hg
  have HF := Lib.hid hf
  have hl := hg.nl
  clear hg hf
  go_enter Try.func59, Try.ntmps59
  go_wp2_with fail
  go_loopw [8] (fun i wr => ∃ j : Nat, i = .int .i64 (j : Nat) ∧ j ≤ l.length ∧ Hid ((l.take j).any f = false) ∧ Hid (Below w.heap.size w wr)) (fun i _ => l.length - (intOf i).toNat)
  case atStart => exact ⟨0, rfl, by omega, Lib.hid (by simp), Lib.hid (Below.refl _ _)⟩
  case round =>
  obtain ⟨j, rfl, hj, HA, HB⟩ := hrel
  obtain ⟨wo, rfl⟩ : ∃ wo : World, wo = wr := ⟨_, rfl⟩
  by_cases hlt : j < l.length
  · have hltI : (j : Int) < (l.length : Int) := by omega
    have hjI : ¬ (j : Int) < 0 := by omega
    obtain ⟨bb, o, q, d, rfl, hbb, c0, c1, c2, hiv, hbl, hmem⟩ := (HG.out.up HB.out).at hlt
    have hst := any_take f l j hlt
    have hyes := any_yes (f := f) hlt
    rw [HA.out, Bool.false_or] at hst
    obtain ⟨x, hxx⟩ : ∃ x, l[j] = x := ⟨_, rfl⟩
    rw [hxx] at c0 c1 c2 hst hyes hiv hbl hmem
    have H2 := Lib.hid (HF.out wo x q d HB.out hmem hiv)
    generalize f x = v at H2 hst hyes
    have HST := Lib.hid hst
    have HY := Lib.hid hyes
    clear hxx hst hyes hiv hbl hmem
    go_wp2_with fail
    refine H2.out.mono ?_
    rintro _ w1 ⟨rfl, hb1⟩
    have HB2 := Lib.hid (HB.out.trans (hb1.mono HB.out.size))
    clear hb1 HB
    cases v with
    | true =>
      have h0 : (0 : Int) ≤ (j : Int) := by omega
      go_wp2_with fail
      go_ret
      exact ⟨_, rfl, by rw [decide_eq_true h0, HY.out (by trivial)], HB2.out⟩
    | false =>
      go_wp2_with fail
      go_roundw
      case rel => exact ⟨j + 1, by go_num, by omega, HST, HB2⟩
      case measure => simp [intOf]; omega
  · obtain rfl : j = l.length := by omega
    have hltI : ¬ (l.length : Int) < (l.length : Int) := by omega
    have hR := HA.out
    rw [List.take_length] at hR
    have HR := Lib.hid hR
    clear hR hlt
    go_wp2_with fail
    go_ret
    exact ⟨-1, rfl, by rw [HR.out]; rfl, HB.out⟩
set_option maxHeartbeats 1000000 in
theorem contains30_32 {D : Nat → Prop} {w : World} {l : List Pr} {p : Option Addr} {c : Nat} {f : Pr → Bool} (hg : GM D w l p)
    (hf : ∀ (z : World) (q : Pr) (a : Option Addr) (d : Nat), Below w.heap.size w z → q ∈ l → IV D z q.bd (.slice a q.bd.length d) → Calls Try.prog 32 #[.agg #[.int .i64 q.hd, .slice a q.bd.length d, .bool q.rt]] z fun e z' => e = .returned (.bool (f q)) ∧ Below z.heap.size z z') :
    Calls Try.prog 30 #[.slice p l.length c, .func (.func 32) #[] #[]] w fun e w' => e = .returned (.bool (l.any f)) ∧ Below w.heap.size w w' := by
  have H1 := Lib.hid (index59_32 (c := c) hg hf)
  generalize l.any f = R at H1 ⊢
  generalize l.length = n at H1 ⊢
  clear hg hf
  go_enter Try.func30, Try.ntmps30
  go_wp2_with fail
  refine H1.out.mono ?_
  rintro _ w1 ⟨r, rfl, hr, hb⟩
  have HR := Lib.hid hr
  have HB := Lib.hid hb
  clear hr hb
  by_cases h : 0 ≤ r
  · go_wp2_with fail
    go_ret
    exact ⟨vbool6 (by rw [← HR.out, decide_eq_true (by omega)]), HB.out⟩
  · go_wp2_with fail
    go_ret
    exact ⟨vbool6 (by rw [← HR.out, decide_eq_false (by omega)]), HB.out⟩
set_option maxHeartbeats 4000000 in
theorem index59_57 {D : Nat → Prop} {w : World} {l : List Pr} {p : Option Addr} {c b : Nat} {f : Pr → Bool} (hg : GM D w l p)
    (hf : ∀ (z : World) (q : Pr) (a : Option Addr) (d : Nat), Below w.heap.size w z → q ∈ l → IV D z q.bd (.slice a q.bd.length d) → Calls Try.prog 57 #[.agg #[.int .i64 q.hd, .slice a q.bd.length d, .bool q.rt], .pointer (some ⟨b, 0, none⟩)] z fun e z' => e = .returned (.bool (f q)) ∧ Below z.heap.size z z') :
    Calls Try.prog 59 #[.slice p l.length c, .func (.func 57) #[] #[.pointer (some ⟨b, 0, none⟩)]] w fun e w' => ∃ r : Int, e = .returned (.int .i64 r) ∧ decide (0 ≤ r) = l.any f ∧ Below w.heap.size w w' := by
  have HG := Lib.hid hg
  have HF := Lib.hid hf
  have hl := hg.nl
  clear hg hf
  go_enter Try.func59, Try.ntmps59
  go_wp2_with fail
  go_loopw [8] (fun i wr => ∃ j : Nat, i = .int .i64 (j : Nat) ∧ j ≤ l.length ∧ Hid ((l.take j).any f = false) ∧ Hid (Below w.heap.size w wr)) (fun i _ => l.length - (intOf i).toNat)
  case atStart => exact ⟨0, rfl, by omega, Lib.hid (by simp), Lib.hid (Below.refl _ _)⟩
  case round =>
  obtain ⟨j, rfl, hj, HA, HB⟩ := hrel
  obtain ⟨wo, rfl⟩ : ∃ wo : World, wo = wr := ⟨_, rfl⟩
  by_cases hlt : j < l.length
  · have hltI : (j : Int) < (l.length : Int) := by omega
    have hjI : ¬ (j : Int) < 0 := by omega
    obtain ⟨bb, o, q, d, rfl, hbb, c0, c1, c2, hiv, hbl, hmem⟩ := (HG.out.up HB.out).at hlt
    have hst := any_take f l j hlt
    have hyes := any_yes (f := f) hlt
    rw [HA.out, Bool.false_or] at hst
    obtain ⟨x, hxx⟩ : ∃ x, l[j] = x := ⟨_, rfl⟩
    rw [hxx] at c0 c1 c2 hst hyes hiv hbl hmem
    have H2 := Lib.hid (HF.out wo x q d HB.out hmem hiv)
    generalize f x = v at H2 hst hyes
    have HST := Lib.hid hst
    have HY := Lib.hid hyes
    clear hxx hst hyes hiv hbl hmem
    go_wp2_with fail
    refine H2.out.mono ?_
    rintro _ w1 ⟨rfl, hb1⟩
    have HB2 := Lib.hid (HB.out.trans (hb1.mono HB.out.size))
    clear hb1 HB
    cases v with
    | true =>
      have h0 : (0 : Int) ≤ (j : Int) := by omega
      go_wp2_with fail
      go_ret
      exact ⟨_, rfl, by rw [decide_eq_true h0, HY.out (by trivial)], HB2.out⟩
    | false =>
      go_wp2_with fail
      go_roundw
      case rel => exact ⟨j + 1, by go_num, by omega, HST, HB2⟩
      case measure => simp [intOf]; omega
  · obtain rfl : j = l.length := by omega
    have hltI : ¬ (l.length : Int) < (l.length : Int) := by omega
    have hR := HA.out
    rw [List.take_length] at hR
    have HR := Lib.hid hR
    clear hR hlt
    go_wp2_with fail
    go_ret
    exact ⟨-1, rfl, by rw [HR.out]; rfl, HB.out⟩
set_option maxHeartbeats 1000000 in
theorem contains30_57 {D : Nat → Prop} {w : World} {l : List Pr} {p : Option Addr} {c b : Nat} {f : Pr → Bool} (hg : GM D w l p)
    (hf : ∀ (z : World) (q : Pr) (a : Option Addr) (d : Nat), Below w.heap.size w z → q ∈ l → IV D z q.bd (.slice a q.bd.length d) → Calls Try.prog 57 #[.agg #[.int .i64 q.hd, .slice a q.bd.length d, .bool q.rt], .pointer (some ⟨b, 0, none⟩)] z fun e z' => e = .returned (.bool (f q)) ∧ Below z.heap.size z z') :
    Calls Try.prog 30 #[.slice p l.length c, .func (.func 57) #[] #[.pointer (some ⟨b, 0, none⟩)]] w fun e w' => e = .returned (.bool (l.any f)) ∧ Below w.heap.size w w' := by
  have H1 := Lib.hid (index59_57 (c := c) hg hf)
  generalize l.any f = R at H1 ⊢
  generalize l.length = n at H1 ⊢
  clear hg hf
  go_enter Try.func30, Try.ntmps30
  go_wp2_with fail
  refine H1.out.mono ?_
  rintro _ w1 ⟨r, rfl, hr, hb⟩
  have HR := Lib.hid hr
  have HB := Lib.hid hb
  clear hr hb
  by_cases h : 0 ≤ r
  · go_wp2_with fail
    go_ret
    exact ⟨vbool6 (by rw [← HR.out, decide_eq_true (by omega)]), HB.out⟩
  · go_wp2_with fail
    go_ret
    exact ⟨vbool6 (by rw [← HR.out, decide_eq_false (by omega)]), HB.out⟩
end Go.Proofs.Ytpmkdpjcpimhkaa
