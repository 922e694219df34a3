/- Texts of package regs, one behind the other. -/
import Derived.Test.YthglciccejholaaDoorProg
import Derived.Test.YthglciccejholaaDoorN28
import Derived.Test.YthglciccejholaaDoorY15
import Derived.WalkKit
import Derived.WalkLawsBesides
import Derived.WalkSpells
import Derived.Outline
import Derived.Lib.Walk
import Derived.Lib.Hide
import Derived.Lib.Slices
import Derived.Lib.Strings
import Derived.RegionTactic
import Derived.LoopTactic
import Derived.Below
import Derived.IntWalk
import Derived.Deep.QuietTactic
import Derived.BigQuiet
import Derived.Deep.MidRow
import Derived.Maps.AppendAt
import Derived.Laws.Rows
import Derived.Laws.Tables
import Derived.Deep.WholeRow
import Derived.Deep.Cut
import Derived.Deep.CutRange
import Derived.Lib.SliceRun
import Derived.Laws.MakeOwn
import Derived.Deep.RegionLaw
import Derived.Deep.RegionLawGrows
import Derived.Deep.RegionHeld3
import Derived.RegionCalls
import Derived.Deep.RegionWith
import Derived.Deep.Light
import Derived.Test.YthglciccejholaaDoorY29
section
/- Package nfa. -/
namespace Go.Proofs.YthglciccejholaaDoor
set_option linter.unusedSimpArgs false
set_option linter.unusedVariables false
set_option maxRecDepth 100000
open Go.RowKit
/- What is laid of any pattern: plain. -/
mutual
/-- What is laid of a pattern, ahead of what comes behind; where it begins. -/
def layF : RT → Int → Nat → List Nst × Int
  | .mk k u ps, b, n =>
    if k = 1 then ([], b)
    else if k = 2 then ([⟨u, b, [], -1⟩], (n : Nat))
    else if k = 3 then layC ps b n
    else if k = 4 then ((layA ps b n).1 ++ [⟨uZ, -1, (layA ps b n).2, -1⟩], ((n + (layA ps b n).1.length : Nat) : Int))
    else if k = 5 then (⟨uZ, -1, [b, (layC ps (n : Nat) (n + 1)).2], -1⟩ :: (layC ps (n : Nat) (n + 1)).1, (n : Nat))
    else if k = 6 then (⟨uZ, -1, [b, (layC ps (n : Nat) (n + 1)).2], -1⟩ :: (layC ps (n : Nat) (n + 1)).1, (layC ps (n : Nat) (n + 1)).2)
    else if k = 7 then ((layC ps b n).1 ++ [⟨uZ, -1, [(layC ps b n).2, b], -1⟩], ((n + (layC ps b n).1.length : Nat) : Int))
    else ([⟨uZ, -1, [], -1⟩], (n : Nat))
/-- Of a row of them: the last one first. -/
def layC : List RT → Int → Nat → List Nst × Int
  | [], b, _ => ([], b)
  | p :: r, b, n => ((layC r b n).1 ++ (layF p (layC r b n).2 (n + (layC r b n).1.length)).1, (layF p (layC r b n).2 (n + (layC r b n).1.length)).2)
/-- Of each of them ahead of the same. -/
def layA : List RT → Int → Nat → List Nst × List Int
  | [], _, _ => ([], [])
  | p :: r, b, n => ((layF p b n).1 ++ (layA r b (n + (layF p b n).1.length)).1, (layF p b n).2 :: (layA r b (n + (layF p b n).1.length)).2)
end
mutual
theorem layF_len : ∀ (t : RT) (b : Int) (n : Nat), (layF t b n).1.length + 1 ≤ 2 * sz t
  | .mk k u ps, b, n => by
    have hA := layA_len ps b n
    have hC := layC_len ps b n
    have hC2 := layC_len ps (n : Nat) (n + 1)
    rw [layF, sz]
    split
    · simp; omega
    · split
      · simp; omega
      · split
        · omega
        · split
          · simp; omega
          · split
            · simp; omega
            · split
              · simp; omega
              · split
                · simp; omega
                · simp; omega
theorem layC_len : ∀ (ps : List RT) (b : Int) (n : Nat), (layC ps b n).1.length ≤ 2 * szL ps
  | [], b, n => by simp [layC]
  | p :: r, b, n => by
    have h1 := layC_len r b n
    have h2 := layF_len p (layC r b n).2 (n + (layC r b n).1.length)
    rw [layC, szL]; simp; omega
theorem layA_len : ∀ (ps : List RT) (b : Int) (n : Nat), (layA ps b n).1.length ≤ 2 * szL ps
  | [], b, n => by simp [layA]
  | p :: r, b, n => by
    have h1 := layF_len p b n
    have h2 := layA_len r b (n + (layF p b n).1.length)
    rw [layA, szL]; simp; omega
end
/-- What a call of lay does. -/
def LayPost (B : Nat) (P : Nat → Prop) (w0 y : World) (bb : Nat) (zs : List Nq) (r : List Nst × Int) (e : Ending) (y' : World) : Prop :=
  e = .returned (.int .i64 r.2) ∧ (∃ sl' zs', BB B P w0 y' bb (zs ++ zs') sl' ∧ zs'.map (·.1) = r.1) ∧ ∀ b, P b → y'.heap[b]? = y.heap[b]?
def LayOK (t : RT) : Prop := ∀ {B : Nat} {P : Nat → Prop} {w0 y : World} {bb : Nat} {zs : List Nq} {sl : Value} {b : Int} {v : Value}, BB B P w0 y bb zs sl → zs.length + sz t * 8192 ≤ 900000000 → RV P y t v →
    Calls Tryd.prog 39 #[.pointer (some ⟨bb, 0, none⟩), v, .int .i64 b] y (LayPost B P w0 y bb zs (layF t b zs.length))
end Go.Proofs.YthglciccejholaaDoor
end
section
/- Package nfa. -/
namespace Go.Proofs.YthglciccejholaaDoor
set_option linter.unusedSimpArgs false
set_option linter.unusedVariables false
set_option maxRecDepth 100000
open Go.RowKit
/- What is laid of the empty one, of none. -/
set_option maxHeartbeats 4000000 in
theorem lay_empty {B : Nat} {P : Nat → Prop} {w0 y : World} {bb : Nat} {zs : List Nq} {sl : Value} {u : Nat → Int} {t : Int} {p : Option Addr} {n c : Nat} (h : BB B P w0 y bb zs sl) :
    Calls Tryd.prog 39 #[.pointer (some ⟨bb, 0, none⟩), .agg (nodeC 1 u (.slice p n c)), .int .i64 t] y (LayPost B P w0 y bb zs ([], t)) := by
  have hb0 := (((Below.refl y.heap.size y).alloc (Nat.le_refl _) (.cells #[.pointer (some ⟨bb, 0, none⟩)] 118)).alloc (by simp) (.cells (nodeC 1 u (.slice p n c)) 27)).alloc (by simp; omega) (.cells #[.int .i64 t] 3)
  have H := Lib.hid (h.up hb0)
  have HK := Lib.hid fun b (hp : P b) => hb0.block b (h.pr b hp).1
  clear h hb0
  unfold nodeC at *
  go_enter Tryd.func39, Tryd.ntmps39
  go_wp2_with fail
  go_ret
  exact ⟨rfl, ⟨_, [], by rw [List.append_nil]; exact H.out, rfl⟩, HK.out⟩
set_option maxHeartbeats 4000000 in
theorem lay_none {B : Nat} {P : Nat → Prop} {w0 y : World} {bb : Nat} {zs : List Nq} {sl : Value} {u : Nat → Int} {t : Int} {p : Option Addr} {n c : Nat} (h : BB B P w0 y bb zs sl) (hlen : zs.length ≤ 1000000000) :
    Calls Tryd.prog 39 #[.pointer (some ⟨bb, 0, none⟩), .agg (nodeC 0 u (.slice p n c)), .int .i64 t] y (LayPost B P w0 y bb zs ([⟨uZ, -1, [], -1⟩], (zs.length : Nat))) := by
  have hb0 := (((Below.refl y.heap.size y).alloc (Nat.le_refl _) (.cells #[.pointer (some ⟨bb, 0, none⟩)] 118)).alloc (by simp) (.cells (nodeC 0 u (.slice p n c)) 27)).alloc (by simp; omega) (.cells #[.int .i64 t] 3)
  have HC := Lib.hid (free_any (fr := []) (q := none) (f := 0) (h.up hb0) hlen (IVf.nil _ _ _ _))
  rw [List.length_nil] at HC
  have HK := Lib.hid fun b (hp : P b) => hb0.block b (h.pr b hp).1
  clear h hb0
  unfold nodeC at *
  go_enter Tryd.func39, Tryd.ntmps39
  go_wp2_with fail
  refine HC.out.mono ?_
  rintro _ y1 ⟨rfl, h1, h2⟩
  have H1 := Lib.hid h1
  have H2 := Lib.hid h2
  clear h1 h2 HC
  go_wp2_with fail
  go_ret
  obtain ⟨sl', h3⟩ := H1.out
  exact ⟨rfl, ⟨sl', _, h3, rfl⟩, fun b hp => (H2.out b hp).trans (HK.out b hp)⟩
theorem lay_setP {B : Nat} {P : Nat → Prop} {w0 y : World} {bb : Nat} {zs : List Nq} {sl : Value} {u : Nat → Int} {t : Int} {p : Option Addr} {n c : Nat} (h : BB B P w0 y bb zs sl) (hlen : zs.length ≤ 1000000000) :
    Calls Tryd.prog 39 #[.pointer (some ⟨bb, 0, none⟩), .agg (nodeC 2 u (.slice p n c)), .int .i64 t] y (LayPost B P w0 y bb zs ([⟨u, t, [], -1⟩], (zs.length : Nat))) :=
  (lay_set (t := t) h hlen).mono fun e y' k => ⟨k.1, by obtain ⟨sl', hs⟩ := k.2.1; exact ⟨sl', _, hs, rfl⟩, k.2.2⟩
/- A pattern that is gone on with. -/
set_option maxHeartbeats 16000000 in
theorem loop_any {B : Nat} {P : Nat → Prop} {w0 y : World} {bb : Nat} {ss : List Nq} {sl : Value} {pt : RT} {k : Int} {u : Nat → Int} {t : Int} {p : Option Addr} {n c : Nat} (IH : LayOK pt) (h : BB B P w0 y bb ss sl) (hlen : ss.length + 1 + sz pt * 8192 ≤ 900000000) (hv : RV P y pt (.agg (nodeC k u (.slice p n c)))) :
    Calls Tryd.prog 79 #[.pointer (some ⟨bb, 0, none⟩), .agg (nodeC k u (.slice p n c)), .int .i64 t] y fun e y' => e = .returned (.tuple #[.int .i64 (layF pt (ss.length : Nat) (ss.length + 1)).2, .int .i64 (ss.length : Nat)]) ∧ (∃ sl' zs', BB B P w0 y' bb (ss ++ zs') sl' ∧ zs'.map (·.1) = ⟨uZ, -1, [t, (layF pt (ss.length : Nat) (ss.length + 1)).2], -1⟩ :: (layF pt (ss.length : Nat) (ss.length + 1)).1) ∧ ∀ b, P b → y'.heap[b]? = y.heap[b]? := by
  obtain ⟨i0, hi, hz0, hz1, hz2⟩ := info_parts info3
  have hll := layF_len pt (ss.length : Nat) (ss.length + 1)
  obtain ⟨R, hR⟩ : ∃ R, layF pt (ss.length : Nat) (ss.length + 1) = R := ⟨_, rfl⟩
  rw [hR] at hll ⊢
  obtain ⟨R1, F⟩ := R
  simp only at hll ⊢
  have HLL := Lib.hid hll
  have HRR := Lib.hid hR
  clear hR hll
  have hbY := h.sz
  have hbb := (Array.getElem?_eq_some_iff.1 h.f).1
  have hown : ∀ g, sl.ownBlock = some g → g < y.heap.size := fun g hg => (World.ownsRow.lt h.ts.2 g hg).2
  have hz1' : (y.alloc (.cells #[.int .i64 k, .int .u64 (u 0), .int .u64 (u 1), .int .u64 (u 2), .int .u64 (u 3), .slice p n c] 27)).heap.size = y.heap.size + 1 := by simp
  have hb1 := (Below.refl y.heap.size y).alloc (Nat.le_refl _) (.cells #[.int .i64 k, .int .u64 (u 0), .int .u64 (u 1), .int .u64 (u 2), .int .u64 (u 3), .slice p n c] 27)
  have hb2 := hb1.alloc (by simp) (.cells #[.int .i64 t] 3)
  have hB2 : BB B (fun b => P b ∨ b = y.heap.size) w0 ((y.alloc (.cells #[.int .i64 k, .int .u64 (u 0), .int .u64 (u 1), .int .u64 (u 2), .int .u64 (u 3), .slice p n c] 27)).alloc (.cells #[.int .i64 t] 3)) bb ss sl := (h.allocP (.cells #[.int .i64 k, .int .u64 (u 0), .int .u64 (u 1), .int .u64 (u 2), .int .u64 (u 3), .slice p n c] 27)).up ((Below.refl _ _).alloc (Nat.le_refl _) (.cells #[.int .i64 t] 3))
  have HPR := Lib.hid h.pr
  have HRV := Lib.hid hv
  have hg0 : ((y.alloc (.cells #[.int .i64 k, .int .u64 (u 0), .int .u64 (u 1), .int .u64 (u 2), .int .u64 (u 3), .slice p n c] 27)).alloc (.cells #[.int .i64 t] 3)).heap[y.heap.size + 1]? = some (.cells #[.int .i64 t] 3) := by
    have := heap_alloc_last (y.alloc (.cells #[.int .i64 k, .int .u64 (u 0), .int .u64 (u 1), .int .u64 (u 2), .int .u64 (u 3), .slice p n c] 27)) (.cells #[.int .i64 t] 3)
    rwa [hz1'] at this
  have hIV : IVf (fun b => B ≤ b ∧ b < ((y.alloc (.cells #[.int .i64 k, .int .u64 (u 0), .int .u64 (u 1), .int .u64 (u 2), .int .u64 (u 3), .slice p n c] 27)).alloc (.cells #[.int .i64 t] 3)).heap.size ∧ some b ≠ sl.ownBlock ∧ b ≠ bb ∧ ¬ (P b ∨ b = y.heap.size)) ((y.alloc (.cells #[.int .i64 k, .int .u64 (u 0), .int .u64 (u 1), .int .u64 (u 2), .int .u64 (u 3), .slice p n c] 27)).alloc (.cells #[.int .i64 t] 3)) [t] (.slice (some ⟨y.heap.size + 1, 0, none⟩) ([t] : List Int).length 1) :=
    ⟨_, 1, rfl, fun _ => ⟨y.heap.size + 1, 0, rfl, ⟨by omega, by simp, fun e => by have := hown _ e.symm; omega, by omega, fun hP => hP.elim (fun hp => by have := (HPR.out _ hp).1; omega) (fun e => by omega)⟩, fun i hi => by
      have h0 : i = 0 := by simp at hi; omega
      subst h0
      rw [cell_of_row _ (y.heap.size + 1) _ _ 3 (0, 0) hg0]; rfl, _, _, hg0⟩⟩
  have HC1 := Lib.hid (free_any hB2 (by omega) hIV)
  rw [show ([t] : List Int).length = 1 from rfl] at HC1
  have HBX : Hid (((y.alloc (.cells #[.int .i64 k, .int .u64 (u 0), .int .u64 (u 1), .int .u64 (u 2), .int .u64 (u 3), .slice p n c] 27)).alloc (.cells #[.int .i64 t] 3)).heap[y.heap.size]? = some (.cells #[.int .i64 k, .int .u64 (u 0), .int .u64 (u 1), .int .u64 (u 2), .int .u64 (u 3), .slice p n c] 27)) := Lib.hid ((heap_alloc_old _ _ (by simp)).trans (heap_alloc_last y _))
  have HK2 := Lib.hid fun b (hp : P b) => hb2.block b (h.pr b hp).1
  clear h hIV hB2 hg0 hb1 hb2 hz1' hown hv
  unfold nodeC at *
  go_enter Tryd.func79, Tryd.ntmps79
  go_wp2_with fail
  refine HC1.out.mono ?_
  rintro _ y3 ⟨rfl, ⟨sl3, h3⟩, hk3⟩
  have HBX3 := Lib.hid ((hk3 _ (.inr rfl)).trans HBX.out)
  have HK3 := Lib.hid fun b (hp : P b) => (hk3 b (.inl hp)).trans (HK2.out b hp)
  have hL := IH (b := (ss.length : Nat)) h3 (by simp; omega) (HRV.out.mono (E := fun b => P b ∨ b = y.heap.size) (fun b hb => .inl hb) (fun b hb _ => HK3.out b hb))
  unfold LayPost at hL
  rw [List.length_append, List.length_singleton, HRR.out] at hL
  have HL := Lib.hid hL
  have e0 : y3.cell? ⟨y.heap.size, 0, none⟩ = some (.int .i64 k) := cell_of_row y3 _ 0 _ 27 (0, 0) HBX3.out
  have e1 : y3.cell? ⟨y.heap.size, 1, none⟩ = some (.int .u64 (u 0)) := cell_of_row y3 _ 1 _ 27 (0, 0) HBX3.out
  have e2 : y3.cell? ⟨y.heap.size, 2, none⟩ = some (.int .u64 (u 1)) := cell_of_row y3 _ 2 _ 27 (0, 0) HBX3.out
  have e3 : y3.cell? ⟨y.heap.size, 3, none⟩ = some (.int .u64 (u 2)) := cell_of_row y3 _ 3 _ 27 (0, 0) HBX3.out
  have e4 : y3.cell? ⟨y.heap.size, 4, none⟩ = some (.int .u64 (u 3)) := cell_of_row y3 _ 4 _ 27 (0, 0) HBX3.out
  have e5 : y3.cell? ⟨y.heap.size, 5, none⟩ = some (.slice p n c) := cell_of_row y3 _ 5 _ 27 (0, 0) HBX3.out
  clear h3 hk3 HC1 HBX HK2 hL HRV HRR
  go_wp2_with fail
  refine HL.out.mono ?_
  rintro _ y4 ⟨rfl, ⟨sl4, zs', h4, hzs⟩, hk4⟩
  have HK4 := Lib.hid fun b (hp : P b) => (hk4 b (.inl hp)).trans (HK3.out b hp)
  have H4 := Lib.hid h4
  have HZS := Lib.hid hzs
  clear hk4 HL HK3 e0 e1 e2 e3 e4 e5 HBX3 h4 hzs
  rw [List.append_assoc] at H4
  go_upto_region 3 with fail
  obtain ⟨zs4, hzs4⟩ : ∃ zs4 : List Nq, (ss ++ ([(⟨uZ, -1, [t], -1⟩, some ⟨y.heap.size + 1, 0, none⟩, 1)] ++ zs')) = zs4 := ⟨_, rfl⟩
  rw [hzs4] at H4
  have hzl' : zs'.length = R1.length := by rw [← HZS.out]; simp
  have hl4 : zs4.length = ss.length + 1 + zs'.length := by rw [← hzs4]; simp; omega
  have HB4 : Hid (zs4.length ≤ 800000000 + 100000000) := Lib.hid (by have := HLL.out; omega)
  have hlt4 : ss.length < zs4.length := by omega
  have hget4 : zs4[ss.length] = (⟨uZ, -1, [t], -1⟩, some ⟨y.heap.size + 1, 0, none⟩, 1) := by subst hzs4; simp
  have hset4 : ∀ x : Nq, zs4.set ss.length x = ss ++ (x :: zs') := fun x => by subst hzs4; simp
  obtain ⟨G, cap4, hsl4⟩ : ∃ G cap4, sl4 = .slice (some ⟨G, 0, none⟩) zs4.length cap4 := by
    rcases H4.out.ts.2.2 with ⟨_, h0⟩ | ⟨G, cap4, cur, he, _⟩
    · omega
    · exact ⟨G, cap4, he⟩
  subst hsl4
  have hGlt : G < y4.heap.size := (World.ownsRow.lt H4.out.ts.2 G rfl).2
  have hGB : B ≤ G := (World.ownsRow.lt H4.out.ts.2 G rfl).1
  have hGb : G ≠ bb := fun e => H4.out.sb (by simp [Value.ownBlock, e])
  have hbb4 : bb < y4.heap.size := (Array.getElem?_eq_some_iff.1 H4.out.f).1
  have hiv4 := H4.out.ts.1 ss.length hlt4
  rw [hget4] at hiv4
  obtain ⟨pg, cg, heg, hhg⟩ := hiv4
  cases heg
  obtain ⟨b', o', hbo, hDg, hcg⟩ := hhg (by simp)
  cases hbo
  have cell_t : y4.cell? ⟨y.heap.size + 1, 0, none⟩ = some (.int .i64 t) := hcg.1 0 (by simp)
  have hflat : (flat (zs4.map zC))[ss.length * 7 + 5]? = some (.slice (some ⟨y.heap.size + 1, 0, none⟩) 1 1) := by
    rw [flatz_get zs4 ss.length hlt4 5 (by omega), hget4]; rfl
  have cS : y4.cell? ⟨bb, 0, none⟩ = some (.slice (some ⟨G, 0, none⟩) zs4.length cap4) := cell_of_row y4 bb 0 _ 77 (0, 0) H4.out.f
  have cF : y4.cell? ⟨G, ss.length * 7 + 5, none⟩ = some (.slice (some ⟨y.heap.size + 1, 0, none⟩) 1 1) := by
    have := World.ownsRow.cells H4.out.ts.2 (g := G) rfl _ _ hflat
    rwa [Addr.add_mid, Nat.zero_add] at this
  have fF : y4.frozen? ⟨G, ss.length * 7 + 5, none⟩ = false := World.ownsRow.frozenAt H4.out.ts.2 _
  have cS2 : ∀ o, (y4.alloc o).cell? ⟨bb, 0, none⟩ = some (.slice (some ⟨G, 0, none⟩) zs4.length cap4) := fun o => (cell_same (heap_alloc_old y4 o hbb4) _).trans cS
  have cF2 : ∀ o, (y4.alloc o).cell? ⟨G, ss.length * 7 + 5, none⟩ = some (.slice (some ⟨y.heap.size + 1, 0, none⟩) 1 1) := fun o => (cell_same (heap_alloc_old y4 o hGlt) _).trans cF
  have hglt : y.heap.size + 1 < y4.heap.size := blk_lt cell_t
  have HOLD : Hid (∀ b, (some (⟨y.heap.size + 1, 0, none⟩ : Addr)) = some b → ∀ j v, [Value.int .i64 t][j]? = some v → ((y4.alloc (.cells #[.int .i64 F] 3)).drew).cell? (b.add j) = some v) := Lib.hid fun b hb j v hj => by
    cases hb
    match j, hj with
    | 0, hj =>
      simp at hj
      subst hj
      exact (cell_same (heap_alloc_old y4 _ hglt) 0).trans cell_t
  have HNEW : Hid (∀ j v, [Value.int .i64 F][j]? = some v → ((y4.alloc (.cells #[.int .i64 F] 3)).drew).cell? ((⟨y4.heap.size, 0, none⟩ : Addr).add j) = some v) := Lib.hid (cell_one_new y4 _ 3)
  have hsI : ¬ (ss.length : Int) < 0 := by omega
  have hsI2 : (ss.length : Int) < (zs4.length : Int) := by omega
  have HYA := Lib.hid (show (y4.alloc (.cells #[.int .i64 F] 3)).heap.size = y4.heap.size + 1 by simp)
  have HL4 := Lib.hid hl4
  have HLT4 := Lib.hid hlt4
  clear hhg hcg hflat hDg hl4 hzl'
  go_region_law (refine step_append_grows rfl (.tmp 28) (.tmp 30) 39 rfl 3 i0 (.int .i64 0) 1 8 Tryd.underlying39 hi hz0 hz1 hz2 rfl (by decide) (some ⟨y.heap.size + 1, 0, none⟩) 1 1 [.int .i64 t] (by simp [Act.eval, Act.put]) (by intro h; cases h) rfl HOLD.out ⟨y4.heap.size, 0, none⟩ 1 1 [.int .i64 F] (by simp [Act.eval, Act.put]) rfl HNEW.out (by simp [Value.oneCell']) (by omega) (by unfold maxLen; omega) (by omega) ?_; intro v' w7 hown7 hgrow7; obtain ⟨p7, c7, rfl⟩ := row_form hown7; have hG7 : w7.heap[G]? = y4.heap[G]? := (hgrow7.block G (by have := HYA.out; show G < (y4.alloc _).heap.size; omega) (by simp)).trans (heap_alloc_old y4 _ hGlt); have hbb7 : w7.heap[bb]? = y4.heap[bb]? := (hgrow7.block bb (by have := HYA.out; show bb < (y4.alloc _).heap.size; omega) (by simp)).trans (heap_alloc_old y4 _ hbb4); have cS7 : w7.cell? ⟨bb, 0, none⟩ = some (.slice (some ⟨G, 0, none⟩) zs4.length cap4) := (cell_same hbb7 _).trans cS; have cF7 : w7.cell? ⟨G, ss.length * 7 + 5, none⟩ = some (.slice (some ⟨y.heap.size + 1, 0, none⟩) 1 1) := (cell_same hG7 _).trans cF; have fF7 : w7.frozen? ⟨G, ss.length * 7 + 5, none⟩ = false := by (rw [← fF]; unfold World.frozen?; simp only [hG7]))
  all_goals
    have hown8 : w7.ownsRow (y4.heap.size + 1) 3 1 (.slice p7 2 c7) 2 [.int .i64 t, .int .i64 F] := by
      have h9 := hown7
      rw [show ((y4.alloc (.cells #[.int .i64 F] 3)).drew).heap.size = y4.heap.size + 1 from HYA.out] at h9
      exact h9
    have hg7 : (y4.alloc (.cells #[.int .i64 F] 3)).grownBy w7 none := ⟨hgrow7.os, hgrow7.tape, hgrow7.output, hgrow7.size, hgrow7.block⟩
    have hX := BB.setFree (l := [t, F]) (H4.out.less (Q := P) (fun b hp => .inl hp)) HLT4.out (.cells #[.int .i64 F] 3) (by simp) hown8 hg7
    simp only [hget4] at hX
    rw [hset4] at hX
    have hPK : ∀ b, P b → (w7.setCell ⟨G, ss.length * 7 + 5, none⟩ (.slice p7 2 c7)).heap[b]? = y.heap[b]? := fun b hp => (hX.2 b (H4.out.pr b (.inl hp)).1 (fun e => (H4.out.pr b (.inl hp)).2.2 (by simp [Value.ownBlock, e]))).trans (HK4.out b hp)
    have HX := Lib.hid hX.1
    have HPK := Lib.hid hPK
    clear hX hPK hown8 hg7 hown7 hgrow7 hG7 hbb7 cS7 cF7 fF7 HOLD HNEW
    refine at_worldQ (fun x => BB B P w0 x bb (ss ++ ((⟨uZ, -1, [t, F], -1⟩, p7, c7) :: zs')) (.slice (some ⟨G, 0, none⟩) zs4.length cap4) ∧ ∀ b, P b → x.heap[b]? = y.heap[b]?) ⟨HX.out, HPK.out⟩ fun x hx => ?_
    have H9 := Lib.hid hx
    clear hx HX HPK cS cF fF cS2 cF2 H4
    go_wp2_with fail
    exact bodyPost_ret (v := .tuple #[.int .i64 F, .int .i64 (ss.length : Nat)]) (by simp [results, Tryd.results79, go_sem]) rfl ⟨rfl, ⟨_, _, H9.out.1, by rw [List.map_cons, HZS.out]⟩, H9.out.2⟩
end Go.Proofs.YthglciccejholaaDoor
end
