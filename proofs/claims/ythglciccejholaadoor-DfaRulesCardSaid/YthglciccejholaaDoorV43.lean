/- Texts of package regs, one behind the other. -/
import Derived.Test.YthglciccejholaaDoorProg
import Derived.Test.YthglciccejholaaDoorV42
import Derived.WalkKit
import Derived.WalkLawsBesides
import Derived.WalkSpells
import Derived.Outline
import Derived.Lib.Walk
import Derived.Lib.Hide
import Derived.Lib.Slices
import Derived.Lib.Strings
import Derived.RegionTactic
import Derived.LoopTactic
import Derived.Below
import Derived.IntWalk
import Derived.Deep.QuietTactic
import Derived.BigQuiet
import Derived.Deep.MidRow
import Derived.Maps.AppendAt
import Derived.Laws.Rows
import Derived.Laws.Tables
import Derived.Deep.WholeRow
import Derived.Deep.Cut
import Derived.Deep.CutRange
import Derived.Lib.SliceRun
import Derived.Laws.MakeOwn
import Derived.Deep.RegionLaw
import Derived.Deep.RegionLawGrows
import Derived.Test.YthglciccejholaaDoorV9
import Derived.Deep.RegionHeld3
import Derived.RegionCalls
import Derived.Deep.RegionWith
import Derived.Deep.Light
section
/- Package nfa. -/
namespace Go.Proofs.YthglciccejholaaDoor
set_option linter.unusedSimpArgs false
set_option linter.unusedVariables false
set_option maxRecDepth 100000
open Go.RowKit
/- refused, where every pattern may be. -/
/-- Rules in memory: their kinds, their patterns. -/
def RuV (D : Nat → Prop) (w : World) (ts : List RT) (sl : Value) : Prop := ∃ q f, sl = .slice q ts.length f ∧ (ts ≠ [] → ∃ b o, q = some ⟨b, o, none⟩ ∧ D b ∧ ∀ i (h : i < ts.length), ∃ (kd k : Int) (u : Nat → Int) (p : Option Addr) (n c : Nat), RV D w ts[i] (.agg (nodeC k u (.slice p n c))) ∧
    ∀ j y, (#[.int .i64 kd, .int .i64 k, .int .u64 (u 0), .int .u64 (u 1), .int .u64 (u 2), .int .u64 (u 3), .slice p n c] : Array Value)[j]? = some y → w.cell? ⟨b, o + i * 7 + j, none⟩ = some y)
theorem RuV.mono {D E : Nat → Prop} {w w' : World} (hE : ∀ b, D b → E b) (hw : ∀ b, D b → b < w.heap.size → w'.heap[b]? = w.heap[b]?) {ts : List RT} {sl : Value} (h : RuV D w ts sl) : RuV E w' ts sl := by
  obtain ⟨p, c, rfl, h⟩ := h
  refine ⟨p, c, rfl, fun hn => ?_⟩
  obtain ⟨b, o, hp, hD, hc⟩ := h hn
  refine ⟨b, o, hp, hE b hD, fun i hi => ?_⟩
  obtain ⟨kd, k, u, p', n, c', h1, h2⟩ := hc i hi
  refine ⟨kd, k, u, p', n, c', h1.mono hE hw, fun j y hy => ?_⟩
  have h3 := h2 j y hy
  rw [← h3]
  exact cell_same (hw b hD (blk_lt h3)) _
theorem info58 : (Tryd.prog.info? 29).map (fun i => (i.zero, i.size)) = some (some (.agg #[.int .i64 0, .int .i64 0, .int .u64 0, .int .u64 0, .int .u64 0, .int .u64 0, .slice none 0 0]), 7) := by kernel_rfl
theorem zero58 (w : World) : (zeroValue 29).run Tryd.prog w = .ok (.agg #[.int .i64 0, .int .i64 0, .int .u64 0, .int .u64 0, .int .u64 0, .int .u64 0, .slice none 0 0]) w := (zero_of_info info58).1 w
theorem szL_take (ts : List RT) (j : Nat) (h : j < ts.length) : szL (ts.take (j + 1)) = szL (ts.take j) + sz ts[j] := by
  rw [List.take_add_one, List.getElem?_eq_getElem h, szL_app]; simp [szL]
theorem szL_take_le : ∀ (ts : List RT) (j : Nat), szL (ts.take j) ≤ szL ts
  | [], j => by simp
  | t :: ts, 0 => by simp [szL]
  | t :: ts, j + 1 => by have := szL_take_le ts j; simp only [List.take_succ_cons, szL]; omega
theorem all_take2 (p : RT → Bool) (l : List RT) (j : Nat) (h : j < l.length) : (l.take (j + 1)).all p = ((l.take j).all p && p l[j]) := by
  rw [List.take_add_one, List.getElem?_eq_getElem h, List.all_append]; simp
theorem checkE_sz {t : RT} (h : checkE t = 0) : sz t ≤ 512 := by
  unfold checkE at h
  by_cases h1 : 512 < sz t
  · rw [if_pos h1] at h; cases h
  · omega
end Go.Proofs.YthglciccejholaaDoor
end
section
/- Package nfa. -/
namespace Go.Proofs.YthglciccejholaaDoor
set_option linter.unusedSimpArgs false
set_option linter.unusedVariables false
set_option maxRecDepth 100000
open Go.RowKit
/- Of: refused; what is laid of a set or a star of one. -/
theorem info24 : (Tryd.prog.info? 33).map (fun i => (i.zero, i.size)) = some (some (.agg #[.int .i64 0, .slice none 0 0]), 2) := by kernel_rfl
theorem zero24 (w : World) : (zeroValue 33).run Tryd.prog w = .ok (.agg #[.int .i64 0, .slice none 0 0]) w := (zero_of_info info24).1 w
theorem info64 : (Tryd.prog.info? 77).map (fun i => (i.zero, i.size)) = some (some (.agg #[.slice none 0 0]), 1) := by kernel_rfl
theorem zero64 (w : World) : (zeroValue 77).run Tryd.prog w = .ok (.agg #[.slice none 0 0]) w := (zero_of_info info64).1 w
theorem results_of {tmps : Array Value} {w : World} {b1 : Nat} {st : Int} {q : Option Addr} {n c : Nat} {e : Int} (h1 : tmps.getD 2 undef = .pointer (some ⟨b1, 0, none⟩)) (h2 : tmps.getD 3 undef = .int .i64 e)
    (c0 : w.cell? ⟨b1, 0, none⟩ = some (.int .i64 st)) (c1 : w.cell? ⟨b1, 1, none⟩ = some (.slice q n c)) :
    (results Tryd.f13 tmps).run Tryd.prog w = .ok (.tuple #[.agg #[.int .i64 st, .slice q n c], .int .i64 e]) w := by
  have g1 : tmps[2]?.getD undef = .pointer (some ⟨b1, 0, none⟩) := by simpa using h1
  have g2 : tmps[3]?.getD undef = .int .i64 e := by simpa using h2
  simp [results, Tryd.results13, asAddr, g1, g2, go_sem, c0, c1]
set_option maxHeartbeats 4000000 in
theorem of_err {w : World} {sl : Value} {E : Int} (hE : (E != 0) = true) (hR : Hid (∀ z, Below w.heap.size w z → Calls Tryd.prog 38 #[sl] z fun e z' => e = .returned (.int .i64 E) ∧ Below z.heap.size z z')) :
    Calls Tryd.prog 13 #[sl] w fun e w' => e = .returned (.tuple #[.agg #[.int .i64 0, .slice none 0 0], .int .i64 E]) ∧ Below w.heap.size w w' := by
  have hz := zero24
  have S0 := Lib.hid ((Sb.start w).alloc (.cells #[.int .i64 0, .slice none 0 0] 33))
  go_enter Tryd.func13, Tryd.ntmps13
  go_wp2_with fail
  refine (hR.out _ S0.out.1).mono ?_
  rintro _ z1 ⟨rfl, hb⟩
  have S1 := Lib.hid (S0.out.up hb)
  have g0 : z1.cell? ⟨w.heap.size, 0, none⟩ = some (.int .i64 0) := S1.out.cell 0
  have g1 : z1.cell? ⟨w.heap.size, 1, none⟩ = some (.slice none 0 0) := S1.out.cell 1
  have f0 : z1.frozen? ⟨w.heap.size, 0, none⟩ = false := S1.out.free 0
  have f1 : z1.frozen? ⟨w.heap.size, 1, none⟩ = false := S1.out.free 1
  have S2 := Lib.hid ((S1.out.set (i := 0) (.int .i64 0) (by simp)).set (i := 1) (.slice none 0 0) (by simp))
  clear hb S0 S1
  go_wp2_with fail
  exact bodyPost_ret (v := .tuple #[.agg #[.int .i64 0, .slice none 0 0], .int .i64 E]) (results_of rfl rfl ((S2.out.cell 0).trans rfl) ((S2.out.cell 1).trans rfl)) rfl ⟨rfl, S2.out.1⟩
end Go.Proofs.YthglciccejholaaDoor
end
section
/- Package nfa. -/
namespace Go.Proofs.YthglciccejholaaDoor
set_option linter.unusedSimpArgs false
set_option linter.unusedVariables false
set_option maxRecDepth 100000
open Go.RowKit
/- Of: the loop over the rules. -/
theorem own_same {w w' : World} {base : Nat} {e : TypeId} {size : Nat} {v : Value} {n : Nat} {xs : List Value} (h : w.ownsRow base e size v n xs) (hk : ∀ g, v.ownBlock = some g → w'.heap[g]? = w.heap[g]?) : w'.ownsRow base e size v n xs := by
  obtain ⟨h1, h2⟩ := h
  refine ⟨h1, ?_⟩
  rcases h2 with h2 | ⟨g, cap, cur, rfl, hb, hg, rest⟩
  · exact .inl h2
  · exact .inr ⟨g, cap, cur, rfl, hb, (hk g rfl).trans hg, rest⟩
/-- A protected row grows. -/
theorem BB.grow {B : Nat} {P Q : Nat → Prop} {w0 y w7 : World} {bb : Nat} {zs : List Nq} {sl : Value} {row : Option Nat} (h : BB B P w0 y bb zs sl) (o : Obj) (hg : (y.alloc o).grownBy w7 row) (hrow : ∀ g, row = some g → P g ∧ B ≤ g) (hQ : ∀ b, Q b → (P b ∨ b = y.heap.size + 1) ∧ b < w7.heap.size) : BB B Q w0 w7 bb zs sl := by
  have hya : (y.alloc o).heap.size = y.heap.size + 1 := by simp
  have hgs := hg.size
  have hk : ∀ b, b < y.heap.size → ¬ P b → w7.heap[b]? = y.heap[b]? := fun b hb hn => (hg.block b (by omega) (fun e => hn (hrow b e.symm).1)).trans (heap_alloc_old y o hb)
  have hbb := (Array.getElem?_eq_some_iff.1 h.f).1
  have hsz := h.sz
  refine ⟨⟨hg.os.trans h.bel.os, hg.tape.trans h.bel.tape, hg.output.trans h.bel.output, by have := h.bel.size; omega, fun b hb => ?_⟩, (hk bb hbb fun hp => (h.pr bb hp).2.1 rfl).trans h.f, ⟨fun i hi => (h.ts.1 i hi).mono (fun b hb => ⟨hb.1, by omega, hb.2.2.1, hb.2.2.2.1, fun hq => (hQ b hq).1.elim hb.2.2.2.2 fun e => by have := hb.2.1; omega⟩) (fun b hb _ => hk b hb.2.1 hb.2.2.2.2), own_same h.ts.2 fun g hg' => hk g (World.ownsRow.lt h.ts.2 g hg').2 fun hp => (h.pr g hp).2.2 hg'.symm⟩, h.hb, h.sb, by omega, fun b hq => ?_⟩
  · refine ((hg.block b (by omega) (fun e => ?_)).trans (heap_alloc_old y o (by omega))).trans (h.bel.block b hb)
    have := (hrow b e.symm).2
    omega
  · have hq' := hQ b hq
    rcases hq'.1 with hp | e
    · exact ⟨hq'.2, (h.pr b hp).2⟩
    · refine ⟨hq'.2, by omega, fun e2 => ?_⟩
      have := (World.ownsRow.lt h.ts.2 b e2.symm).2
      omega
/-- What the builder has is an automaton's states. -/
theorem BB.sv {B : Nat} {P : Nat → Prop} {w0 y : World} {bb : Nat} {zs : List Nq} {sl : Value} (h : BB B P w0 y bb zs sl) : SV (fun b => B ≤ b ∧ b < y.heap.size) y (zs.map (·.1)) sl := by
  rcases h.ts.2.2 with ⟨rfl, h0⟩ | ⟨g, cap, cur, rfl, hb, hg, _⟩
  · have hz : zs = [] := List.length_eq_zero_iff.1 h0
    subst hz
    exact ⟨none, 0, rfl, fun hn => absurd rfl hn⟩
  · have hgl := (Array.getElem?_eq_some_iff.1 hg).1
    refine ⟨some ⟨g, 0, none⟩, cap, by simp, fun _ => ⟨g, 0, rfl, ⟨hb, hgl⟩, fun i hi => ?_⟩⟩
    have hi' : i < zs.length := by simpa using hi
    have e : (zs.map (·.1))[i] = zs[i].1 := by simp
    rw [e]
    refine ⟨zs[i].2.1, zs[i].2.2, (h.ts.1 i hi').iv.mono (fun b hb => ⟨hb.1, hb.2.1⟩) (fun b _ _ => rfl), fun j v hv => ?_⟩
    have hj : j < 7 := (Array.getElem?_eq_some_iff.1 hv).1
    have h2 := World.ownsRow.cells h.ts.2 (g := g) rfl (i * 7 + j) v (by rw [flatz_get zs i hi' j hj]; exact hv)
    rw [Addr.add_mid, Nat.zero_add] at h2
    rw [Nat.zero_add]; exact h2
theorem iv_rowI {B : Nat} {y : World} {l : List Int} {sl : Value} (h : y.ownsRow B 3 1 sl l.length (l.map fun x => .int .i64 x)) : ∃ p c, sl = .slice p l.length c ∧ (l ≠ [] → ∃ g, p = some ⟨g, 0, none⟩ ∧ B ≤ g ∧ g < y.heap.size ∧ ∀ i (hi : i < l.length), y.cell? ⟨g, 0 + i, none⟩ = some (.int .i64 l[i])) := by
  rcases h.2 with ⟨rfl, h0⟩ | ⟨g, cap, cur, rfl, hb, hg, _⟩
  · have : l = [] := List.length_eq_zero_iff.1 h0
    subst this
    exact ⟨none, 0, rfl, fun hn => absurd rfl hn⟩
  · refine ⟨_, _, rfl, fun _ => ⟨g, rfl, hb, (Array.getElem?_eq_some_iff.1 hg).1, fun i hi => ?_⟩⟩
    have h2 := World.ownsRow.cells h (g := g) rfl i (.int .i64 l[i]) (by simp [hi])
    rwa [Addr.add_mid] at h2
end Go.Proofs.YthglciccejholaaDoor
end
section
/- Package nfa. -/
namespace Go.Proofs.YthglciccejholaaDoor
set_option linter.unusedSimpArgs false
set_option linter.unusedVariables false
set_option maxRecDepth 100000
open Go.RowKit
/- Of, of sets and stars of them. -/
end Go.Proofs.YthglciccejholaaDoor
end
section
/- Package nfa. -/
namespace Go.Proofs.YthglciccejholaaDoor
set_option linter.unusedSimpArgs false
set_option linter.unusedVariables false
set_option maxRecDepth 100000
open Go.RowKit
/- byteOf; what alive hands in. -/
end Go.Proofs.YthglciccejholaaDoor
end
section
/- Package nfa. -/
namespace Go.Proofs.YthglciccejholaaDoor
set_option linter.unusedSimpArgs false
set_option linter.unusedVariables false
set_option maxRecDepth 100000
open Go.RowKit
/- alive. -/
end Go.Proofs.YthglciccejholaaDoor
end
section
/- Package nfa. -/
namespace Go.Proofs.YthglciccejholaaDoor
set_option linter.unusedSimpArgs false
set_option linter.unusedVariables false
set_option maxRecDepth 100000
open Go.RowKit
/- alive: the walk. -/
def ALV (w y : World) (b2 : Nat) (sq : Option Addr) (c : Nat) : Prop := Below w.heap.size w y ∧ y.heap[b2]? = some (.cells #[.int .i64 5, .slice sq 6 c] 33) ∧ SV (fun b => b < y.heap.size) y ex6 (.slice sq 6 c)
theorem ALV.up {w y z : World} {b2 : Nat} {sq : Option Addr} {c : Nat} (h : ALV w y b2 sq c) (hb : Below y.heap.size y z) : ALV w z b2 sq c :=
  ⟨h.1.trans (hb.mono h.1.size), (hb.block b2 (Array.getElem?_eq_some_iff.1 h.2.1).1).trans h.2.1, h.2.2.mono (fun b h => Nat.lt_of_lt_of_le h hb.size) (fun b h _ => hb.block b h)⟩
end Go.Proofs.YthglciccejholaaDoor
end
section
/- Package nfa. -/
namespace Go.Proofs.YthglciccejholaaDoor
set_option linter.unusedSimpArgs false
set_option linter.unusedVariables false
set_option maxRecDepth 100000
open Go.RowKit
/- What is laid of any pattern: plain. -/
mutual
/-- What is laid of a pattern, ahead of what comes behind; where it begins. -/
def layF : RT → Int → Nat → List Nst × Int
  | .mk k u ps, b, n =>
    if k = 1 then ([], b)
    else if k = 2 then ([⟨u, b, [], -1⟩], (n : Nat))
    else if k = 3 then layC ps b n
    else if k = 4 then ((layA ps b n).1 ++ [⟨uZ, -1, (layA ps b n).2, -1⟩], ((n + (layA ps b n).1.length : Nat) : Int))
    else if k = 5 then (⟨uZ, -1, [b, (layC ps (n : Nat) (n + 1)).2], -1⟩ :: (layC ps (n : Nat) (n + 1)).1, (n : Nat))
    else if k = 6 then (⟨uZ, -1, [b, (layC ps (n : Nat) (n + 1)).2], -1⟩ :: (layC ps (n : Nat) (n + 1)).1, (layC ps (n : Nat) (n + 1)).2)
    else if k = 7 then ((layC ps b n).1 ++ [⟨uZ, -1, [(layC ps b n).2, b], -1⟩], ((n + (layC ps b n).1.length : Nat) : Int))
    else ([⟨uZ, -1, [], -1⟩], (n : Nat))
/-- Of a row of them: the last one first. -/
def layC : List RT → Int → Nat → List Nst × Int
  | [], b, _ => ([], b)
  | p :: r, b, n => ((layC r b n).1 ++ (layF p (layC r b n).2 (n + (layC r b n).1.length)).1, (layF p (layC r b n).2 (n + (layC r b n).1.length)).2)
/-- Of each of them ahead of the same. -/
def layA : List RT → Int → Nat → List Nst × List Int
  | [], _, _ => ([], [])
  | p :: r, b, n => ((layF p b n).1 ++ (layA r b (n + (layF p b n).1.length)).1, (layF p b n).2 :: (layA r b (n + (layF p b n).1.length)).2)
end
mutual
theorem layF_len : ∀ (t : RT) (b : Int) (n : Nat), (layF t b n).1.length + 1 ≤ 2 * sz t
  | .mk k u ps, b, n => by
    have hA := layA_len ps b n
    have hC := layC_len ps b n
    have hC2 := layC_len ps (n : Nat) (n + 1)
    rw [layF, sz]
    split
    · simp; omega
    · split
      · simp; omega
      · split
        · omega
        · split
          · simp; omega
          · split
            · simp; omega
            · split
              · simp; omega
              · split
                · simp; omega
                · simp; omega
theorem layC_len : ∀ (ps : List RT) (b : Int) (n : Nat), (layC ps b n).1.length ≤ 2 * szL ps
  | [], b, n => by simp [layC]
  | p :: r, b, n => by
    have h1 := layC_len r b n
    have h2 := layF_len p (layC r b n).2 (n + (layC r b n).1.length)
    rw [layC, szL]; simp; omega
theorem layA_len : ∀ (ps : List RT) (b : Int) (n : Nat), (layA ps b n).1.length ≤ 2 * szL ps
  | [], b, n => by simp [layA]
  | p :: r, b, n => by
    have h1 := layF_len p b n
    have h2 := layA_len r b (n + (layF p b n).1.length)
    rw [layA, szL]; simp; omega
end
/-- What a call of lay does. -/
def LayPost (B : Nat) (P : Nat → Prop) (w0 y : World) (bb : Nat) (zs : List Nq) (r : List Nst × Int) (e : Ending) (y' : World) : Prop :=
  e = .returned (.int .i64 r.2) ∧ (∃ sl' zs', BB B P w0 y' bb (zs ++ zs') sl' ∧ zs'.map (·.1) = r.1) ∧ ∀ b, P b → y'.heap[b]? = y.heap[b]?
def LayOK (t : RT) : Prop := ∀ {B : Nat} {P : Nat → Prop} {w0 y : World} {bb : Nat} {zs : List Nq} {sl : Value} {b : Int} {v : Value}, BB B P w0 y bb zs sl → zs.length + sz t * 8192 ≤ 900000000 → RV P y t v →
    Calls Tryd.prog 39 #[.pointer (some ⟨bb, 0, none⟩), v, .int .i64 b] y (LayPost B P w0 y bb zs (layF t b zs.length))
end Go.Proofs.YthglciccejholaaDoor
end
