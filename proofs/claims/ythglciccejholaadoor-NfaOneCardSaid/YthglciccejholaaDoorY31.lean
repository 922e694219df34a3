/- Texts of package regs, one behind the other. -/
import Derived.Test.YthglciccejholaaDoorProg
import Derived.Test.YthglciccejholaaDoorY30
import Derived.WalkKit
import Derived.WalkLawsBesides
import Derived.WalkSpells
import Derived.Outline
import Derived.Lib.Walk
import Derived.Lib.Hide
import Derived.Lib.Slices
import Derived.Lib.Strings
import Derived.RegionTactic
import Derived.LoopTactic
import Derived.Below
import Derived.IntWalk
import Derived.Deep.QuietTactic
import Derived.BigQuiet
import Derived.Deep.MidRow
import Derived.Maps.AppendAt
import Derived.Laws.Rows
import Derived.Laws.Tables
import Derived.Deep.WholeRow
import Derived.Deep.Cut
import Derived.Deep.CutRange
import Derived.Lib.SliceRun
import Derived.Laws.MakeOwn
import Derived.Deep.RegionLaw
import Derived.Deep.RegionLawGrows
section
/- Package nfa. -/
namespace Go.Proofs.YthglciccejholaaDoor
set_option linter.unusedSimpArgs false
set_option linter.unusedVariables false
set_option maxRecDepth 100000
open Go.RowKit
/- Of: refused; what is laid of a set or a star of one. -/
/-- A set, or a star of one. -/
def smp : RT → Bool
  | .mk k u ps => match ps with
    | [] => k == 2
    | [.mk k' u' ps'] => k == 5 && (k' == 2 && ps'.isEmpty)
    | _ => false
/-- What is laid of it, ahead of what comes behind; where it begins. -/
def layP : RT → Int → Nat → List Nst × Int
  | .mk k u ps, b, n => match ps with
    | [.mk k' u' ps'] => ([⟨uZ, -1, [b, (n : Int) + 1], -1⟩, ⟨u', (n : Nat), [], -1⟩], (n : Nat))
    | _ => ([⟨u, b, [], -1⟩], (n : Nat))
theorem lay_smp {B : Nat} {P D : Nat → Prop} {w0 y : World} {bb : Nat} {zs : List Nq} {sl : Value} {t : RT} {v : Value} {b : Int} (h : BB B P w0 y bb zs sl) (hlen : zs.length ≤ 4000) (ht : smp t = true) (hv : RV D y t v) :
    Calls Tryd.prog 39 #[.pointer (some ⟨bb, 0, none⟩), v, .int .i64 b] y fun e y' => e = .returned (.int .i64 (layP t b zs.length).2) ∧ (∃ sl' zs', BB B P w0 y' bb (zs ++ zs') sl' ∧ zs'.map (·.1) = (layP t b zs.length).1) ∧ ∀ b, P b → y'.heap[b]? = y.heap[b]? := by
  obtain ⟨k, u, ps⟩ := t
  match ps, ht, hv with
  | [], ht, hv =>
    obtain ⟨p, c, rfl, _⟩ := hv.parts
    have hk : k = 2 := by simpa [smp] using ht
    subst hk
    exact (lay_set (u := u) (t := b) (p := p) (n := 0) (c := c) h (by omega)).mono fun e y' k => ⟨k.1, by obtain ⟨sl', hs⟩ := k.2.1; exact ⟨sl', _, hs, rfl⟩, k.2.2⟩
  | [.mk k' u' ps'], ht, hv =>
    obtain ⟨p, c, rfl, hp⟩ := hv.parts
    have hk : k = 5 ∧ k' = 2 ∧ ps' = [] := by simpa [smp] using ht
    obtain ⟨rfl, rfl, rfl⟩ := hk
    obtain ⟨b0, o, rfl, hD, hx⟩ := hp (by simp)
    obtain ⟨k2, u2, p2, n2, c2, hv2, hc⟩ := hx 0 (by simp)
    obtain ⟨p3, c3, he, _⟩ := hv2.parts
    have he2 : nodeC k2 u2 (.slice p2 n2 c2) = nodeC 2 u' (.slice p3 ([] : List RT).length c3) := by injection he
    have hc2 : ∀ j v, (nodeC 2 u' (.slice p3 0 c3))[j]? = some v → y.cell? ⟨b0, o + j, none⟩ = some v := fun j v hj => by
      have := hc j v (by rw [he2]; exact hj)
      rw [show o + j = o + (6 * 0 + j) by omega]; exact this
    exact (lay_star (u := u') (us := u) (t := b) (p := p3) (n := 0) (c := c3) (b := b0) (o := o) (cs := c) h hlen hc2).mono fun e y' k => ⟨k.1, by obtain ⟨sl', q, f, hs⟩ := k.2.1; exact ⟨sl', _, hs, rfl⟩, k.2.2⟩
theorem info24 : (Tryd.prog.info? 33).map (fun i => (i.zero, i.size)) = some (some (.agg #[.int .i64 0, .slice none 0 0]), 2) := by kernel_rfl
theorem zero24 (w : World) : (zeroValue 33).run Tryd.prog w = .ok (.agg #[.int .i64 0, .slice none 0 0]) w := (zero_of_info info24).1 w
theorem info64 : (Tryd.prog.info? 77).map (fun i => (i.zero, i.size)) = some (some (.agg #[.slice none 0 0]), 1) := by kernel_rfl
theorem zero64 (w : World) : (zeroValue 77).run Tryd.prog w = .ok (.agg #[.slice none 0 0]) w := (zero_of_info info64).1 w
theorem results_of {tmps : Array Value} {w : World} {b1 : Nat} {st : Int} {q : Option Addr} {n c : Nat} {e : Int} (h1 : tmps.getD 2 undef = .pointer (some ⟨b1, 0, none⟩)) (h2 : tmps.getD 3 undef = .int .i64 e)
    (c0 : w.cell? ⟨b1, 0, none⟩ = some (.int .i64 st)) (c1 : w.cell? ⟨b1, 1, none⟩ = some (.slice q n c)) :
    (results Tryd.f13 tmps).run Tryd.prog w = .ok (.tuple #[.agg #[.int .i64 st, .slice q n c], .int .i64 e]) w := by
  have g1 : tmps[2]?.getD undef = .pointer (some ⟨b1, 0, none⟩) := by simpa using h1
  have g2 : tmps[3]?.getD undef = .int .i64 e := by simpa using h2
  simp [results, Tryd.results13, asAddr, g1, g2, go_sem, c0, c1]
set_option maxHeartbeats 4000000 in
theorem of_err {w : World} {sl : Value} {E : Int} (hE : (E != 0) = true) (hR : Hid (∀ z, Below w.heap.size w z → Calls Tryd.prog 38 #[sl] z fun e z' => e = .returned (.int .i64 E) ∧ Below z.heap.size z z')) :
    Calls Tryd.prog 13 #[sl] w fun e w' => e = .returned (.tuple #[.agg #[.int .i64 0, .slice none 0 0], .int .i64 E]) ∧ Below w.heap.size w w' := by
  have hz := zero24
  have S0 := Lib.hid ((Sb.start w).alloc (.cells #[.int .i64 0, .slice none 0 0] 33))
  go_enter Tryd.func13, Tryd.ntmps13
  go_wp2_with fail
  refine (hR.out _ S0.out.1).mono ?_
  rintro _ z1 ⟨rfl, hb⟩
  have S1 := Lib.hid (S0.out.up hb)
  have g0 : z1.cell? ⟨w.heap.size, 0, none⟩ = some (.int .i64 0) := S1.out.cell 0
  have g1 : z1.cell? ⟨w.heap.size, 1, none⟩ = some (.slice none 0 0) := S1.out.cell 1
  have f0 : z1.frozen? ⟨w.heap.size, 0, none⟩ = false := S1.out.free 0
  have f1 : z1.frozen? ⟨w.heap.size, 1, none⟩ = false := S1.out.free 1
  have S2 := Lib.hid ((S1.out.set (i := 0) (.int .i64 0) (by simp)).set (i := 1) (.slice none 0 0) (by simp))
  clear hb S0 S1
  go_wp2_with fail
  exact bodyPost_ret (v := .tuple #[.agg #[.int .i64 0, .slice none 0 0], .int .i64 E]) (results_of rfl rfl ((S2.out.cell 0).trans rfl) ((S2.out.cell 1).trans rfl)) rfl ⟨rfl, S2.out.1⟩
end Go.Proofs.YthglciccejholaaDoor
end
section
/- Package nfa. -/
namespace Go.Proofs.YthglciccejholaaDoor
set_option linter.unusedSimpArgs false
set_option linter.unusedVariables false
set_option maxRecDepth 100000
open Go.RowKit
/- Of: the loop over the rules. -/
theorem own_same {w w' : World} {base : Nat} {e : TypeId} {size : Nat} {v : Value} {n : Nat} {xs : List Value} (h : w.ownsRow base e size v n xs) (hk : ∀ g, v.ownBlock = some g → w'.heap[g]? = w.heap[g]?) : w'.ownsRow base e size v n xs := by
  obtain ⟨h1, h2⟩ := h
  refine ⟨h1, ?_⟩
  rcases h2 with h2 | ⟨g, cap, cur, rfl, hb, hg, rest⟩
  · exact .inl h2
  · exact .inr ⟨g, cap, cur, rfl, hb, (hk g rfl).trans hg, rest⟩
/-- A protected row grows. -/
theorem BB.grow {B : Nat} {P Q : Nat → Prop} {w0 y w7 : World} {bb : Nat} {zs : List Nq} {sl : Value} {row : Option Nat} (h : BB B P w0 y bb zs sl) (o : Obj) (hg : (y.alloc o).grownBy w7 row) (hrow : ∀ g, row = some g → P g ∧ B ≤ g) (hQ : ∀ b, Q b → (P b ∨ b = y.heap.size + 1) ∧ b < w7.heap.size) : BB B Q w0 w7 bb zs sl := by
  have hya : (y.alloc o).heap.size = y.heap.size + 1 := by simp
  have hgs := hg.size
  have hk : ∀ b, b < y.heap.size → ¬ P b → w7.heap[b]? = y.heap[b]? := fun b hb hn => (hg.block b (by omega) (fun e => hn (hrow b e.symm).1)).trans (heap_alloc_old y o hb)
  have hbb := (Array.getElem?_eq_some_iff.1 h.f).1
  have hsz := h.sz
  refine ⟨⟨hg.os.trans h.bel.os, hg.tape.trans h.bel.tape, hg.output.trans h.bel.output, by have := h.bel.size; omega, fun b hb => ?_⟩, (hk bb hbb fun hp => (h.pr bb hp).2.1 rfl).trans h.f, ⟨fun i hi => (h.ts.1 i hi).mono (fun b hb => ⟨hb.1, by omega, hb.2.2.1, hb.2.2.2.1, fun hq => (hQ b hq).1.elim hb.2.2.2.2 fun e => by have := hb.2.1; omega⟩) (fun b hb _ => hk b hb.2.1 hb.2.2.2.2), own_same h.ts.2 fun g hg' => hk g (World.ownsRow.lt h.ts.2 g hg').2 fun hp => (h.pr g hp).2.2 hg'.symm⟩, h.hb, h.sb, by omega, fun b hq => ?_⟩
  · refine ((hg.block b (by omega) (fun e => ?_)).trans (heap_alloc_old y o (by omega))).trans (h.bel.block b hb)
    have := (hrow b e.symm).2
    omega
  · have hq' := hQ b hq
    rcases hq'.1 with hp | e
    · exact ⟨hq'.2, (h.pr b hp).2⟩
    · refine ⟨hq'.2, by omega, fun e2 => ?_⟩
      have := (World.ownsRow.lt h.ts.2 b e2.symm).2
      omega
/-- What the builder has is an automaton's states. -/
theorem BB.sv {B : Nat} {P : Nat → Prop} {w0 y : World} {bb : Nat} {zs : List Nq} {sl : Value} (h : BB B P w0 y bb zs sl) : SV (fun b => B ≤ b ∧ b < y.heap.size) y (zs.map (·.1)) sl := by
  rcases h.ts.2.2 with ⟨rfl, h0⟩ | ⟨g, cap, cur, rfl, hb, hg, _⟩
  · have hz : zs = [] := List.length_eq_zero_iff.1 h0
    subst hz
    exact ⟨none, 0, rfl, fun hn => absurd rfl hn⟩
  · have hgl := (Array.getElem?_eq_some_iff.1 hg).1
    refine ⟨some ⟨g, 0, none⟩, cap, by simp, fun _ => ⟨g, 0, rfl, ⟨hb, hgl⟩, fun i hi => ?_⟩⟩
    have hi' : i < zs.length := by simpa using hi
    have e : (zs.map (·.1))[i] = zs[i].1 := by simp
    rw [e]
    refine ⟨zs[i].2.1, zs[i].2.2, (h.ts.1 i hi').iv.mono (fun b hb => ⟨hb.1, hb.2.1⟩) (fun b _ _ => rfl), fun j v hv => ?_⟩
    have hj : j < 7 := (Array.getElem?_eq_some_iff.1 hv).1
    have h2 := World.ownsRow.cells h.ts.2 (g := g) rfl (i * 7 + j) v (by rw [flatz_get zs i hi' j hj]; exact hv)
    rw [Addr.add_mid, Nat.zero_add] at h2
    rw [Nat.zero_add]; exact h2
def foldP : Nat → List RT → List Nst → List Int → List Nst × List Int
  | _, [], ss, fs => (ss, fs)
  | i, t :: r, ss, fs => foldP (i + 1) r (ss ++ [⟨uZ, -1, [], (i : Nat)⟩] ++ (layP t (ss.length : Nat) (ss.length + 1)).1) (fs ++ [(layP t (ss.length : Nat) (ss.length + 1)).2])
/-- The automaton of sets and stars of them. -/
def ofS (ts : List RT) : List Nst := (foldP 0 ts [] []).1 ++ [⟨uZ, -1, (foldP 0 ts [] []).2, -1⟩]
theorem ofS_ex : ofS [.mk 2 uA [], .mk 5 uZ [.mk 2 uA []]] = ex6 := rfl
theorem iv_rowI {B : Nat} {y : World} {l : List Int} {sl : Value} (h : y.ownsRow B 3 1 sl l.length (l.map fun x => .int .i64 x)) : ∃ p c, sl = .slice p l.length c ∧ (l ≠ [] → ∃ g, p = some ⟨g, 0, none⟩ ∧ B ≤ g ∧ g < y.heap.size ∧ ∀ i (hi : i < l.length), y.cell? ⟨g, 0 + i, none⟩ = some (.int .i64 l[i])) := by
  rcases h.2 with ⟨rfl, h0⟩ | ⟨g, cap, cur, rfl, hb, hg, _⟩
  · have : l = [] := List.length_eq_zero_iff.1 h0
    subst this
    exact ⟨none, 0, rfl, fun hn => absurd rfl hn⟩
  · refine ⟨_, _, rfl, fun _ => ⟨g, rfl, hb, (Array.getElem?_eq_some_iff.1 hg).1, fun i hi => ?_⟩⟩
    have h2 := World.ownsRow.cells h (g := g) rfl i (.int .i64 l[i]) (by simp [hi])
    rwa [Addr.add_mid] at h2
end Go.Proofs.YthglciccejholaaDoor
end
