/- Package regs: the reader's small steps: what comes next. -/
import Derived.Test.YthglciccejholaaDoorProg
import Derived.Test.YthglciccejholaaDoorRG36
import Derived.WalkKit
import Derived.WalkLawsBesides
import Derived.WalkSpells
import Derived.Outline
import Derived.Lib.Walk
import Derived.Lib.Hide
import Derived.RegionTactic
import Derived.LoopTactic
import Derived.Below
import Derived.IntWalk
import Derived.Deep.QuietTactic
import Derived.BigQuiet
namespace Go.Proofs.YthglciccejholaaDoor.R5
set_option linter.unusedSimpArgs false
set_option linter.unusedVariables false
set_option maxRecDepth 100000
open Go.RowKit

theorem at_world {P : Program} {c : Code} {Q : Exit → Act → World → Prop} {a : Act} {w : World} (R : World → Prop) (hR : R w) (h : ∀ y, R y → c.wp P Q a y) : c.wp P Q a w := h w hR
theorem at_worldQ {Q : Exit → Act → World → Prop} {e : Exit} {a : Act} {w : World} (R : World → Prop) (hR : R w) (h : ∀ y, R y → Q e a y) : Q e a w := h w hR
/-- The part's value, written out. -/
theorem prtA_out (p : Prt) : prtA p = #[.bool p.e, .int .u64 (wf p.f 0), .int .u64 (wf p.f 1), .int .u64 (wf p.f 2), .int .u64 (wf p.f 3), .int .u64 (wf p.f 4), .int .u64 (wf p.f 5), .int .u64 (wf p.f 6), .int .u64 (wf p.f 7), .int .u64 (wf p.l 0), .int .u64 (wf p.l 1), .int .u64 (wf p.l 2), .int .u64 (wf p.l 3), .int .u64 (wf p.l 4), .int .u64 (wf p.l 5), .int .u64 (wf p.l 6), .int .u64 (wf p.l 7)] := rfl
mutual
theorem lay_n : ∀ (t : RT) (N : Net), (layN t N).1.n ≤ N.n + sz t
  | .mk k u ps, N => by
    have h3 := row_n ps N ⟨true, noS, noS⟩
    have h4 := cho_n ps N ⟨false, noS, noS⟩
    have h5 := lup_n k ps N
    rw [layN]
    simp only [sz]
    split
    · show N.n ≤ _; omega
    · split
      · show N.n ≤ _; omega
      · split
        · show N.n + 1 ≤ _; omega
        · split
          · omega
          · split
            · omega
            · omega
theorem lup_n (k : Int) : ∀ (ts : List RT) (N : Net), (lupN k ts N).1.n ≤ N.n + szL ts
  | [], N => by rw [lupN]; show N.n ≤ _; omega
  | t :: ts, N => by
    have h := lay_n t N
    rw [lupN]
    simp only [szL]
    split
    · show (layN t N).1.n ≤ _; omega
    · show (layN t N).1.n ≤ _; omega
theorem row_n : ∀ (ts : List RT) (N : Net) (a : Prt), (rowN ts N a).1.n ≤ N.n + szL ts
  | [], N, a => by rw [rowN]; show N.n ≤ _; omega
  | t :: ts, N, a => by
    have h := lay_n t N
    have h2 := row_n ts ((layN t N).1.link a.l (layN t N).2.f) (a.cat (layN t N).2)
    rw [rowN]
    have : ((layN t N).1.link a.l (layN t N).2.f).n = (layN t N).1.n := rfl
    simp only [szL]; omega
theorem cho_n : ∀ (ts : List RT) (N : Net) (a : Prt), (choN ts N a).1.n ≤ N.n + szL ts
  | [], N, a => by rw [choN]; show N.n ≤ _; omega
  | t :: ts, N, a => by
    have h := lay_n t N
    have h2 := cho_n ts (layN t N).1 (a.alt (layN t N).2)
    rw [choN]
    simp only [szL]; omega
end
/-- What lay does with a pattern. -/
def LP (b : Nat) (D : Nat → Prop) (t : RT) : Prop := Hid (∀ N w v, w.heap[b]? = some (.cells (netC N) 94 (0, 0)) → N.n + sz t ≤ 512 → RV D w t v →
  Calls Tryd.prog 49 #[.pointer (some ⟨b, 0, none⟩), v] w fun e w' => e = .returned (.agg (prtA (layN t N).2)) ∧ Nk b (layN t N).1 w w')
/-- In row and choice: the answer's block, the part so far. -/
def RQ (b A : Nat) (N : Net) (a : Prt) (w0 x : World) : Prop := Nk b N w0 x ∧ x.heap[A]? = some (.cells prtZ 96 (0, 0)) ∧ x.heap[A + 1]? = some (.cells (prtA a) 96 (0, 0))
/-- The same, and the part that was laid last. -/
def RW (b A P : Nat) (N : Net) (a p : Prt) (w0 x : World) : Prop := RQ b A N a w0 x ∧ x.heap[P]? = some (.cells (prtA p) 96 (0, 0))
theorem RQ.up {b A : Nat} {N : Net} {a : Prt} {w0 x y : World} (h : RQ b A N a w0 x) (hb : Below x.heap.size x y) : RQ b A N a w0 y :=
  ⟨h.1.up hb, (hb.block _ (Array.getElem?_eq_some_iff.1 h.2.1).1).trans h.2.1, (hb.block _ (Array.getElem?_eq_some_iff.1 h.2.2).1).trans h.2.2⟩
theorem RQ.step {b A : Nat} {N M : Net} {a : Prt} {w0 x y : World} (h : RQ b A N a w0 x) (hbA : b < A) (k : Nk b M x y) : RQ b A M a w0 y :=
  ⟨h.1.trans k, (k.2.2 A (Array.getElem?_eq_some_iff.1 h.2.1).1 (by omega)).trans h.2.1, (k.2.2 (A + 1) (Array.getElem?_eq_some_iff.1 h.2.2).1 (by omega)).trans h.2.2⟩
theorem RQ.lt {b A : Nat} {N : Net} {a : Prt} {w0 x : World} (h : RQ b A N a w0 x) : A + 1 < x.heap.size := (Array.getElem?_eq_some_iff.1 h.2.2).1
theorem RQ.a {b A : Nat} {N : Net} {a : Prt} {w0 x : World} (h : RQ b A N a w0 x) (j : Nat) : x.cell? ⟨A + 1, j, none⟩ = (prtA a)[j]? := cell_of_row x _ j _ 96 (0, 0) h.2.2
theorem RQ.fa {b A : Nat} {N : Net} {a : Prt} {w0 x : World} (h : RQ b A N a w0 x) (j : Nat) : x.frozen? ⟨A + 1, j, none⟩ = false := frozen_of_row x _ j _ 96 h.2.2
theorem RQ.z {b A : Nat} {N : Net} {a : Prt} {w0 x : World} (h : RQ b A N a w0 x) (j : Nat) : x.cell? ⟨A, j, none⟩ = prtZ[j]? := cell_of_row x _ j _ 96 (0, 0) h.2.1
theorem RQ.fz {b A : Nat} {N : Net} {a : Prt} {w0 x : World} (h : RQ b A N a w0 x) (j : Nat) : x.frozen? ⟨A, j, none⟩ = false := frozen_of_row x _ j _ 96 h.2.1
theorem RW.up {b A P : Nat} {N : Net} {a p : Prt} {w0 x y : World} (h : RW b A P N a p w0 x) (hb : Below x.heap.size x y) : RW b A P N a p w0 y :=
  ⟨h.1.up hb, (hb.block _ (Array.getElem?_eq_some_iff.1 h.2).1).trans h.2⟩
theorem RW.step {b A P : Nat} {N M : Net} {a p : Prt} {w0 x y : World} (h : RW b A P N a p w0 x) (hbA : b < A) (hP : A + 1 < P) (k : Nk b M x y) : RW b A P M a p w0 y :=
  ⟨h.1.step hbA k, (k.2.2 P (Array.getElem?_eq_some_iff.1 h.2).1 (by omega)).trans h.2⟩
theorem RW.p {b A P : Nat} {N : Net} {a p : Prt} {w0 x : World} (h : RW b A P N a p w0 x) (j : Nat) : x.cell? ⟨P, j, none⟩ = (prtA p)[j]? := cell_of_row x _ j _ 96 (0, 0) h.2
theorem RW.fp {b A P : Nat} {N : Net} {a p : Prt} {w0 x : World} (h : RW b A P N a p w0 x) (j : Nat) : x.frozen? ⟨P, j, none⟩ = false := frozen_of_row x _ j _ 96 h.2
theorem putA_f (a : Prt) (f : Nat → Bool) : putA (prtA a) 1 (spL f) = prtA ⟨a.e, f, a.l⟩ := by simp [putA, prtA, spL]
theorem putA_l (a : Prt) (f : Nat → Bool) : putA (prtA a) 9 (spL f) = prtA ⟨a.e, a.f, f⟩ := by simp [putA, prtA, spL]
theorem putA_e (a : Prt) (e : Bool) : putA (prtA a) 0 [.bool e] = prtA ⟨e, a.f, a.l⟩ := by simp [putA, prtA]
/-- The part so far is written. -/
theorem RW.setA {b A P : Nat} {N : Net} {a a' p : Prt} {w0 x : World} (h : RW b A P N a p w0 x) (hb : b < w0.heap.size) (hA : w0.heap.size = A) (hP : A + 1 < P) (o : Nat) (vs : List Value) (hv : putA (prtA a) o vs = prtA a') : RW b A P N a' p w0 (x.setCells (A + 1) o vs) :=
  ⟨⟨h.1.1.set hb (by omega) vs, (setCells_other (by omega) _ _ _).trans h.1.2.1, by rw [← hv]; exact setCells_heap vs o x _ h.1.2.2⟩, (setCells_other (by omega) _ _ _).trans h.2⟩
theorem RW.setP {b A P : Nat} {N : Net} {a p p' : Prt} {w0 x : World} (h : RW b A P N a p w0 x) (hb : b < w0.heap.size) (hA : w0.heap.size = A) (hP : A + 1 < P) (o : Nat) (vs : List Value) (hv : putA (prtA p) o vs = prtA p') : RW b A P N a p' w0 (x.setCells P o vs) :=
  ⟨⟨h.1.1.set hb (by omega) vs, (setCells_other (by omega) _ _ _).trans h.1.2.1, (setCells_other (by omega) _ _ _).trans h.1.2.2⟩, by rw [← hv]; exact setCells_heap vs o x _ h.2⟩
theorem rowN_drop {ts : List RT} {j : Nat} {N : Net} {a : Prt} (h : j < ts.length) : rowN (ts.drop j) N a = rowN (ts.drop (j + 1)) ((layN ts[j] N).1.link a.l (layN ts[j] N).2.f) (a.cat (layN ts[j] N).2) := by
  rw [List.drop_eq_getElem_cons h, rowN]
theorem choN_drop {ts : List RT} {j : Nat} {N : Net} {a : Prt} (h : j < ts.length) : choN (ts.drop j) N a = choN (ts.drop (j + 1)) (layN ts[j] N).1 (a.alt (layN ts[j] N).2) := by
  rw [List.drop_eq_getElem_cons h, choN]
theorem szL_drop {ts : List RT} {j : Nat} (h : j < ts.length) : szL (ts.drop j) = sz ts[j] + szL (ts.drop (j + 1)) := by
  rw [List.drop_eq_getElem_cons h]; simp only [szL]
/-- The parts lie at p. -/
def PVs (D : Nat → Prop) (w : World) (ps : List RT) (p : Option Addr) : Prop := ps ≠ [] → ∃ b o, p = some ⟨b, o, none⟩ ∧ D b ∧ ∀ i (hi : i < ps.length), ∃ k' u' p' n' c', RV D w ps[i] (.agg #[.int .i64 k', .int .u64 (u' 0), .int .u64 (u' 1), .int .u64 (u' 2), .int .u64 (u' 3), .slice p' n' c']) ∧
      (∀ j (y : Value), (nodeC k' u' (.slice p' n' c'))[j]? = some y → w.cell? ⟨b, o + (6 * i + j), none⟩ = some y)
/-- A whole value into the block that was made last. -/
theorem wp_store_new {P : Program} {op : Oper} {a : Act} {w : World} {K : Act → World → Prop} {Q : Exit → Act → World → Prop} (ty : TypeId) (x y : Operand) (ho : op.op = .store ty x y) (c c' : Array Value) (g : Nat) (hg : g = w.heap.size)
    (hx : a.eval x = .pointer (some ⟨g, 0, none⟩)) (hy : a.eval y = .agg c') (hi : (P.info? ty).map (·.size) = some c'.size) (hs : c.size = c'.size) (h1 : c'.all (·.oneCell') = true)
    (h : K (a.put op.dst undef) (w.alloc (.cells c' ty))) : op.wp P a (w.alloc (.cells c ty)) K Q := by
  subst hg
  unfold Oper.wp execOp
  simp only [ho, hx, hy, Instr.storeAt, Instr.sureAddr, Sem.run_bind, Sem.run_pure, Result.andThen_ok, run_storeVar_new w ty c c' hi hs h1]
  exact h
theorem prtA_one (p : Prt) : (prtA p).all (·.oneCell') = true := by
  rw [show prtA p = (Value.bool p.e :: (spL p.f ++ spL p.l)).toArray from rfl]
  apply all_oneCell_toArray
  intro v hv
  simp only [spL, List.mem_cons, List.mem_append, List.not_mem_nil, or_false] at hv
  rcases hv with rfl | (rfl | rfl | rfl | rfl | rfl | rfl | rfl | rfl) | (rfl | rfl | rfl | rfl | rfl | rfl | rfl | rfl) <;> rfl
theorem info70 : (Tryd.prog.info? 96).map (·.size) = some 17 := by kernel_rfl
theorem prtA_size (p : Prt) : (prtA p).size = 17 := rfl
theorem wp_load_prt {op : Oper} {a : Act} {w : World} {K : Act → World → Prop} {Q : Exit → Act → World → Prop} (x : Operand) (ho : op.op = .load 96 x) (b : Nat) (hx : a.eval x = .pointer (some ⟨b, 0, none⟩)) (p : Prt) (hc : w.heap[b]? = some (.cells (prtA p) 96 (0, 0)))
    (h : K (a.put op.dst (.agg (prtA p))) w) : op.wp Tryd.prog a w K Q :=
  wp_load_mid 96 x ho b 0 hx (prtA p).toList _ (fun j v hv => by rw [Nat.zero_add, cell_of_row w b j _ 96 (0, 0) hc, ← hv]; simp) Tryd.underlying96 rfl (by rw [info70]; rfl) (by simpa using h)
theorem wp_store_prt {op : Oper} {a : Act} {w : World} {K : Act → World → Prop} {Q : Exit → Act → World → Prop} (x y : Operand) (ho : op.op = .store 96 x y) (b : Nat) (cs : Array Value) (p : Prt) (hx : a.eval x = .pointer (some ⟨b, 0, none⟩)) (hy : a.eval y = .agg (prtA p))
    (hc : w.heap[b]? = some (.cells cs 96 (0, 0))) (hs : cs.size = 17) (h : K (a.put op.dst undef) (w.setCells b 0 (prtA p).toList)) : op.wp Tryd.prog a w K Q :=
  wp_store_mid 96 x y ho b 0 (prtA p) hx hy (fun j hj => ⟨by rw [cell_of_row w b _ _ 96 (0, 0) hc, Nat.zero_add, Array.getElem?_eq_getElem (by rw [hs]; exact hj)]; rfl, frozen_of_row w b _ _ 96 hc⟩) (by rw [info70]; rfl) (prtA_one p) h
theorem putA_all (cs : Array Value) (p : Prt) (h : cs.size = 17) : putA cs 0 (prtA p).toList = prtA p := by
  refine arr_ext (n := 17) (by rw [putA_size, h]) (prtA_size p) fun i hi => ?_
  rw [putA_get _ _ _ _ (by simp [prtA_size, h]), if_pos ⟨Nat.zero_le _, by simp [prtA_size]; exact hi⟩]
  simp
theorem load_prt {w : World} {b : Nat} {p : Prt} (hc : w.heap[b]? = some (.cells (prtA p) 96 (0, 0))) : (loadVar 96 ⟨b, 0, none⟩).run Tryd.prog w = .ok (.agg (prtA p)) w := by
  have := run_loadVar_mid (P := Tryd.prog) w b 0 96 (prtA p).toList _ (fun j v hv => by rw [Nat.zero_add, cell_of_row w b j _ 96 (0, 0) hc, ← hv]; simp) Tryd.underlying96 rfl (by rw [info70]; rfl)
  simpa using this
theorem prtA_split (a : Prt) : (prtA a).toList = .bool a.e :: (spL a.f ++ spL a.l) := rfl
theorem RQ.rf {b A : Nat} {N : Net} {a : Prt} {w0 x : World} (h : RQ b A N a w0 x) : x.rangeAt (A + 1) 1 (spL a.f) := fun j v hv => by
  have hj : j < 8 := (List.getElem?_eq_some_iff.1 hv).1
  rw [h.a, ← hv]; rcases lt8 hj with rfl | rfl | rfl | rfl | rfl | rfl | rfl | rfl <;> rfl
theorem RQ.rl {b A : Nat} {N : Net} {a : Prt} {w0 x : World} (h : RQ b A N a w0 x) : x.rangeAt (A + 1) 9 (spL a.l) := fun j v hv => by
  have hj : j < 8 := (List.getElem?_eq_some_iff.1 hv).1
  rw [h.a, ← hv]; rcases lt8 hj with rfl | rfl | rfl | rfl | rfl | rfl | rfl | rfl <;> rfl
theorem RW.rpf {b A P : Nat} {N : Net} {a p : Prt} {w0 x : World} (h : RW b A P N a p w0 x) : x.rangeAt P 1 (spL p.f) := fun j v hv => by
  have hj : j < 8 := (List.getElem?_eq_some_iff.1 hv).1
  rw [h.p, ← hv]; rcases lt8 hj with rfl | rfl | rfl | rfl | rfl | rfl | rfl | rfl <;> rfl
theorem RW.rpl {b A P : Nat} {N : Net} {a p : Prt} {w0 x : World} (h : RW b A P N a p w0 x) : x.rangeAt P 9 (spL p.l) := fun j v hv => by
  have hj : j < 8 := (List.getElem?_eq_some_iff.1 hv).1
  rw [h.p, ← hv]; rcases lt8 hj with rfl | rfl | rfl | rfl | rfl | rfl | rfl | rfl <;> rfl
theorem RQ.ta {b A : Nat} {N : Net} {a : Prt} {w0 x : World} (h : RQ b A N a w0 x) (o : Nat) (ho : o + 8 ≤ 17) : x.there (A + 1) o 8 := fun j hj => ⟨by rw [h.a, Array.getElem?_eq_getElem (by rw [prtA_size]; omega)]; rfl, h.fa _⟩
theorem RW.tp {b A P : Nat} {N : Net} {a p : Prt} {w0 x : World} (h : RW b A P N a p w0 x) (o : Nat) (ho : o + 8 ≤ 17) : x.there P o 8 := fun j hj => ⟨by rw [h.p, Array.getElem?_eq_getElem (by rw [prtA_size]; omega)]; rfl, h.fp _⟩
end Go.Proofs.YthglciccejholaaDoor.R5
