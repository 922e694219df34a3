/- Texts of package regs, one behind the other. -/
import Derived.Test.YthglciccejholaaDoorProg
import Derived.Test.YthglciccejholaaDoorRG36
import Derived.WalkKit
import Derived.WalkLawsBesides
import Derived.WalkSpells
import Derived.Outline
import Derived.Lib.Walk
import Derived.Lib.Hide
import Derived.RegionTactic
import Derived.LoopTactic
import Derived.Below
import Derived.IntWalk
import Derived.Deep.QuietTactic
import Derived.BigQuiet
import Derived.Test.YthglciccejholaaDoorV9
import Derived.Deep.Cut
import Derived.Deep.CutRange
section
/- Package regs: the reader's small steps: what comes next. -/
namespace Go.Proofs.YthglciccejholaaDoor.R5
set_option linter.unusedSimpArgs false
set_option linter.unusedVariables false
set_option maxRecDepth 100000
open Go.RowKit

theorem at_world {P : Program} {c : Code} {Q : Exit → Act → World → Prop} {a : Act} {w : World} (R : World → Prop) (hR : R w) (h : ∀ y, R y → c.wp P Q a y) : c.wp P Q a w := h w hR
theorem at_worldQ {Q : Exit → Act → World → Prop} {e : Exit} {a : Act} {w : World} (R : World → Prop) (hR : R w) (h : ∀ y, R y → Q e a y) : Q e a w := h w hR
mutual
theorem lay_n : ∀ (t : RT) (N : Net), (layN t N).1.n ≤ N.n + sz t
  | .mk k u ps, N => by
    have h3 := row_n ps N ⟨true, noS, noS⟩
    have h4 := cho_n ps N ⟨false, noS, noS⟩
    have h5 := lup_n k ps N
    rw [layN]
    simp only [sz]
    split
    · show N.n ≤ _; omega
    · split
      · show N.n ≤ _; omega
      · split
        · show N.n + 1 ≤ _; omega
        · split
          · omega
          · split
            · omega
            · omega
theorem lup_n (k : Int) : ∀ (ts : List RT) (N : Net), (lupN k ts N).1.n ≤ N.n + szL ts
  | [], N => by rw [lupN]; show N.n ≤ _; omega
  | t :: ts, N => by
    have h := lay_n t N
    rw [lupN]
    simp only [szL]
    split
    · show (layN t N).1.n ≤ _; omega
    · show (layN t N).1.n ≤ _; omega
theorem row_n : ∀ (ts : List RT) (N : Net) (a : Prt), (rowN ts N a).1.n ≤ N.n + szL ts
  | [], N, a => by rw [rowN]; show N.n ≤ _; omega
  | t :: ts, N, a => by
    have h := lay_n t N
    have h2 := row_n ts ((layN t N).1.link a.l (layN t N).2.f) (a.cat (layN t N).2)
    rw [rowN]
    have : ((layN t N).1.link a.l (layN t N).2.f).n = (layN t N).1.n := rfl
    simp only [szL]; omega
theorem cho_n : ∀ (ts : List RT) (N : Net) (a : Prt), (choN ts N a).1.n ≤ N.n + szL ts
  | [], N, a => by rw [choN]; show N.n ≤ _; omega
  | t :: ts, N, a => by
    have h := lay_n t N
    have h2 := cho_n ts (layN t N).1 (a.alt (layN t N).2)
    rw [choN]
    simp only [szL]; omega
end
/-- What lay does with a pattern. -/
def LP (b : Nat) (D : Nat → Prop) (t : RT) : Prop := Hid (∀ N w v, w.heap[b]? = some (.cells (netC N) 94 (0, 0)) → N.n + sz t ≤ 512 → RV D w t v →
  Calls Tryd.prog 49 #[.pointer (some ⟨b, 0, none⟩), v] w fun e w' => e = .returned (.agg (prtA (layN t N).2)) ∧ Nk b (layN t N).1 w w')
/-- In row and choice: the answer's block, the part so far. -/
def RQ (b A : Nat) (N : Net) (a : Prt) (w0 x : World) : Prop := Nk b N w0 x ∧ x.heap[A]? = some (.cells prtZ 96 (0, 0)) ∧ x.heap[A + 1]? = some (.cells (prtA a) 96 (0, 0))
/-- The same, and the part that was laid last. -/
def RW (b A P : Nat) (N : Net) (a p : Prt) (w0 x : World) : Prop := RQ b A N a w0 x ∧ x.heap[P]? = some (.cells (prtA p) 96 (0, 0))
theorem RQ.up {b A : Nat} {N : Net} {a : Prt} {w0 x y : World} (h : RQ b A N a w0 x) (hb : Below x.heap.size x y) : RQ b A N a w0 y :=
  ⟨h.1.up hb, (hb.block _ (Array.getElem?_eq_some_iff.1 h.2.1).1).trans h.2.1, (hb.block _ (Array.getElem?_eq_some_iff.1 h.2.2).1).trans h.2.2⟩
theorem RQ.step {b A : Nat} {N M : Net} {a : Prt} {w0 x y : World} (h : RQ b A N a w0 x) (hbA : b < A) (k : Nk b M x y) : RQ b A M a w0 y :=
  ⟨h.1.trans k, (k.2.2 A (Array.getElem?_eq_some_iff.1 h.2.1).1 (by omega)).trans h.2.1, (k.2.2 (A + 1) (Array.getElem?_eq_some_iff.1 h.2.2).1 (by omega)).trans h.2.2⟩
theorem RQ.lt {b A : Nat} {N : Net} {a : Prt} {w0 x : World} (h : RQ b A N a w0 x) : A + 1 < x.heap.size := (Array.getElem?_eq_some_iff.1 h.2.2).1
theorem RQ.a {b A : Nat} {N : Net} {a : Prt} {w0 x : World} (h : RQ b A N a w0 x) (j : Nat) : x.cell? ⟨A + 1, j, none⟩ = (prtA a)[j]? := cell_of_row x _ j _ 96 (0, 0) h.2.2
theorem RQ.fa {b A : Nat} {N : Net} {a : Prt} {w0 x : World} (h : RQ b A N a w0 x) (j : Nat) : x.frozen? ⟨A + 1, j, none⟩ = false := frozen_of_row x _ j _ 96 h.2.2
theorem RQ.z {b A : Nat} {N : Net} {a : Prt} {w0 x : World} (h : RQ b A N a w0 x) (j : Nat) : x.cell? ⟨A, j, none⟩ = prtZ[j]? := cell_of_row x _ j _ 96 (0, 0) h.2.1
theorem RQ.fz {b A : Nat} {N : Net} {a : Prt} {w0 x : World} (h : RQ b A N a w0 x) (j : Nat) : x.frozen? ⟨A, j, none⟩ = false := frozen_of_row x _ j _ 96 h.2.1
theorem RW.up {b A P : Nat} {N : Net} {a p : Prt} {w0 x y : World} (h : RW b A P N a p w0 x) (hb : Below x.heap.size x y) : RW b A P N a p w0 y :=
  ⟨h.1.up hb, (hb.block _ (Array.getElem?_eq_some_iff.1 h.2).1).trans h.2⟩
theorem RW.step {b A P : Nat} {N M : Net} {a p : Prt} {w0 x y : World} (h : RW b A P N a p w0 x) (hbA : b < A) (hP : A + 1 < P) (k : Nk b M x y) : RW b A P M a p w0 y :=
  ⟨h.1.step hbA k, (k.2.2 P (Array.getElem?_eq_some_iff.1 h.2).1 (by omega)).trans h.2⟩
theorem RW.p {b A P : Nat} {N : Net} {a p : Prt} {w0 x : World} (h : RW b A P N a p w0 x) (j : Nat) : x.cell? ⟨P, j, none⟩ = (prtA p)[j]? := cell_of_row x _ j _ 96 (0, 0) h.2
theorem RW.fp {b A P : Nat} {N : Net} {a p : Prt} {w0 x : World} (h : RW b A P N a p w0 x) (j : Nat) : x.frozen? ⟨P, j, none⟩ = false := frozen_of_row x _ j _ 96 h.2
theorem putA_f (a : Prt) (f : Nat → Bool) : putA (prtA a) 1 (spL f) = prtA ⟨a.e, f, a.l⟩ := by simp [putA, prtA, spL]
theorem putA_l (a : Prt) (f : Nat → Bool) : putA (prtA a) 9 (spL f) = prtA ⟨a.e, a.f, f⟩ := by simp [putA, prtA, spL]
theorem putA_e (a : Prt) (e : Bool) : putA (prtA a) 0 [.bool e] = prtA ⟨e, a.f, a.l⟩ := by simp [putA, prtA]
/-- The part so far is written. -/
theorem RW.setA {b A P : Nat} {N : Net} {a a' p : Prt} {w0 x : World} (h : RW b A P N a p w0 x) (hb : b < w0.heap.size) (hA : w0.heap.size = A) (hP : A + 1 < P) (o : Nat) (vs : List Value) (hv : putA (prtA a) o vs = prtA a') : RW b A P N a' p w0 (x.setCells (A + 1) o vs) :=
  ⟨⟨h.1.1.set hb (by omega) vs, (setCells_other (by omega) _ _ _).trans h.1.2.1, by rw [← hv]; exact setCells_heap vs o x _ h.1.2.2⟩, (setCells_other (by omega) _ _ _).trans h.2⟩
theorem RW.setP {b A P : Nat} {N : Net} {a p p' : Prt} {w0 x : World} (h : RW b A P N a p w0 x) (hb : b < w0.heap.size) (hA : w0.heap.size = A) (hP : A + 1 < P) (o : Nat) (vs : List Value) (hv : putA (prtA p) o vs = prtA p') : RW b A P N a p' w0 (x.setCells P o vs) :=
  ⟨⟨h.1.1.set hb (by omega) vs, (setCells_other (by omega) _ _ _).trans h.1.2.1, (setCells_other (by omega) _ _ _).trans h.1.2.2⟩, by rw [← hv]; exact setCells_heap vs o x _ h.2⟩
theorem rowN_drop {ts : List RT} {j : Nat} {N : Net} {a : Prt} (h : j < ts.length) : rowN (ts.drop j) N a = rowN (ts.drop (j + 1)) ((layN ts[j] N).1.link a.l (layN ts[j] N).2.f) (a.cat (layN ts[j] N).2) := by
  rw [List.drop_eq_getElem_cons h, rowN]
theorem choN_drop {ts : List RT} {j : Nat} {N : Net} {a : Prt} (h : j < ts.length) : choN (ts.drop j) N a = choN (ts.drop (j + 1)) (layN ts[j] N).1 (a.alt (layN ts[j] N).2) := by
  rw [List.drop_eq_getElem_cons h, choN]
theorem szL_drop {ts : List RT} {j : Nat} (h : j < ts.length) : szL (ts.drop j) = sz ts[j] + szL (ts.drop (j + 1)) := by
  rw [List.drop_eq_getElem_cons h]; simp only [szL]
/-- The parts lie at p. -/
def PVs (D : Nat → Prop) (w : World) (ps : List RT) (p : Option Addr) : Prop := ps ≠ [] → ∃ b o, p = some ⟨b, o, none⟩ ∧ D b ∧ ∀ i (hi : i < ps.length), ∃ k' u' p' n' c', RV D w ps[i] (.agg #[.int .i64 k', .int .u64 (u' 0), .int .u64 (u' 1), .int .u64 (u' 2), .int .u64 (u' 3), .slice p' n' c']) ∧
      (∀ j (y : Value), (nodeC k' u' (.slice p' n' c'))[j]? = some y → w.cell? ⟨b, o + (6 * i + j), none⟩ = some y)
/-- A whole value into the block that was made last. -/
theorem wp_store_new {P : Program} {op : Oper} {a : Act} {w : World} {K : Act → World → Prop} {Q : Exit → Act → World → Prop} (ty : TypeId) (x y : Operand) (ho : op.op = .store ty x y) (c c' : Array Value) (g : Nat) (hg : g = w.heap.size)
    (hx : a.eval x = .pointer (some ⟨g, 0, none⟩)) (hy : a.eval y = .agg c') (hi : (P.info? ty).map (·.size) = some c'.size) (hs : c.size = c'.size) (h1 : c'.all (·.oneCell') = true)
    (h : K (a.put op.dst undef) (w.alloc (.cells c' ty))) : op.wp P a (w.alloc (.cells c ty)) K Q := by
  subst hg
  unfold Oper.wp execOp
  simp only [ho, hx, hy, Instr.storeAt, Instr.sureAddr, Sem.run_bind, Sem.run_pure, Result.andThen_ok, run_storeVar_new w ty c c' hi hs h1]
  exact h
theorem prtA_one (p : Prt) : (prtA p).all (·.oneCell') = true := by
  rw [show prtA p = (Value.bool p.e :: (spL p.f ++ spL p.l)).toArray from rfl]
  apply all_oneCell_toArray
  intro v hv
  simp only [spL, List.mem_cons, List.mem_append, List.not_mem_nil, or_false] at hv
  rcases hv with rfl | (rfl | rfl | rfl | rfl | rfl | rfl | rfl | rfl) | (rfl | rfl | rfl | rfl | rfl | rfl | rfl | rfl) <;> rfl
theorem info70 : (Tryd.prog.info? 96).map (·.size) = some 17 := by kernel_rfl
theorem prtA_size (p : Prt) : (prtA p).size = 17 := rfl
theorem wp_load_prt {op : Oper} {a : Act} {w : World} {K : Act → World → Prop} {Q : Exit → Act → World → Prop} (x : Operand) (ho : op.op = .load 96 x) (b : Nat) (hx : a.eval x = .pointer (some ⟨b, 0, none⟩)) (p : Prt) (hc : w.heap[b]? = some (.cells (prtA p) 96 (0, 0)))
    (h : K (a.put op.dst (.agg (prtA p))) w) : op.wp Tryd.prog a w K Q :=
  wp_load_mid 96 x ho b 0 hx (prtA p).toList _ (fun j v hv => by rw [Nat.zero_add, cell_of_row w b j _ 96 (0, 0) hc, ← hv]; simp) Tryd.underlying96 rfl (by rw [info70]; rfl) (by simpa using h)
theorem wp_store_prt {op : Oper} {a : Act} {w : World} {K : Act → World → Prop} {Q : Exit → Act → World → Prop} (x y : Operand) (ho : op.op = .store 96 x y) (b : Nat) (cs : Array Value) (p : Prt) (hx : a.eval x = .pointer (some ⟨b, 0, none⟩)) (hy : a.eval y = .agg (prtA p))
    (hc : w.heap[b]? = some (.cells cs 96 (0, 0))) (hs : cs.size = 17) (h : K (a.put op.dst undef) (w.setCells b 0 (prtA p).toList)) : op.wp Tryd.prog a w K Q :=
  wp_store_mid 96 x y ho b 0 (prtA p) hx hy (fun j hj => ⟨by rw [cell_of_row w b _ _ 96 (0, 0) hc, Nat.zero_add, Array.getElem?_eq_getElem (by rw [hs]; exact hj)]; rfl, frozen_of_row w b _ _ 96 hc⟩) (by rw [info70]; rfl) (prtA_one p) h
theorem putA_all (cs : Array Value) (p : Prt) (h : cs.size = 17) : putA cs 0 (prtA p).toList = prtA p := by
  refine arr_ext (n := 17) (by rw [putA_size, h]) (prtA_size p) fun i hi => ?_
  rw [putA_get _ _ _ _ (by simp [prtA_size, h]), if_pos ⟨Nat.zero_le _, by simp [prtA_size]; exact hi⟩]
  simp
theorem load_prt {w : World} {b : Nat} {p : Prt} (hc : w.heap[b]? = some (.cells (prtA p) 96 (0, 0))) : (loadVar 96 ⟨b, 0, none⟩).run Tryd.prog w = .ok (.agg (prtA p)) w := by
  have := run_loadVar_mid (P := Tryd.prog) w b 0 96 (prtA p).toList _ (fun j v hv => by rw [Nat.zero_add, cell_of_row w b j _ 96 (0, 0) hc, ← hv]; simp) Tryd.underlying96 rfl (by rw [info70]; rfl)
  simpa using this
theorem RQ.rf {b A : Nat} {N : Net} {a : Prt} {w0 x : World} (h : RQ b A N a w0 x) : x.rangeAt (A + 1) 1 (spL a.f) := fun j v hv => by
  have hj : j < 8 := (List.getElem?_eq_some_iff.1 hv).1
  rw [h.a, ← hv]; rcases lt8 hj with rfl | rfl | rfl | rfl | rfl | rfl | rfl | rfl <;> rfl
theorem RQ.rl {b A : Nat} {N : Net} {a : Prt} {w0 x : World} (h : RQ b A N a w0 x) : x.rangeAt (A + 1) 9 (spL a.l) := fun j v hv => by
  have hj : j < 8 := (List.getElem?_eq_some_iff.1 hv).1
  rw [h.a, ← hv]; rcases lt8 hj with rfl | rfl | rfl | rfl | rfl | rfl | rfl | rfl <;> rfl
theorem RW.rpf {b A P : Nat} {N : Net} {a p : Prt} {w0 x : World} (h : RW b A P N a p w0 x) : x.rangeAt P 1 (spL p.f) := fun j v hv => by
  have hj : j < 8 := (List.getElem?_eq_some_iff.1 hv).1
  rw [h.p, ← hv]; rcases lt8 hj with rfl | rfl | rfl | rfl | rfl | rfl | rfl | rfl <;> rfl
theorem RW.rpl {b A P : Nat} {N : Net} {a p : Prt} {w0 x : World} (h : RW b A P N a p w0 x) : x.rangeAt P 9 (spL p.l) := fun j v hv => by
  have hj : j < 8 := (List.getElem?_eq_some_iff.1 hv).1
  rw [h.p, ← hv]; rcases lt8 hj with rfl | rfl | rfl | rfl | rfl | rfl | rfl | rfl <;> rfl
theorem RQ.ta {b A : Nat} {N : Net} {a : Prt} {w0 x : World} (h : RQ b A N a w0 x) (o : Nat) (ho : o + 8 ≤ 17) : x.there (A + 1) o 8 := fun j hj => ⟨by rw [h.a, Array.getElem?_eq_getElem (by rw [prtA_size]; omega)]; rfl, h.fa _⟩
theorem RW.tp {b A P : Nat} {N : Net} {a p : Prt} {w0 x : World} (h : RW b A P N a p w0 x) (o : Nat) (ho : o + 8 ≤ 17) : x.there P o 8 := fun j hj => ⟨by rw [h.p, Array.getElem?_eq_getElem (by rw [prtA_size]; omega)]; rfl, h.fp _⟩
end Go.Proofs.YthglciccejholaaDoor.R5
end
section
/- Package regs: the reader's small steps: what comes next. -/
namespace Go.Proofs.YthglciccejholaaDoor.R5
set_option linter.unusedSimpArgs false
set_option linter.unusedVariables false
set_option maxRecDepth 100000
open Go.RowKit

set_option maxHeartbeats 8000000 in
theorem lrow_walk {D : Nat → Prop} {b : Nat} {N : Net} {ps : List RT} {p : Option Addr} {c : Nat} {w : World} (hnet : w.heap[b]? = some (.cells (netC N) 94 (0, 0))) (hD : ∀ z, D z → z < b) (hn : N.n + szL ps ≤ 512) (hl : ps.length ≤ 512) (hp : PVs D w ps p)
    (hI : ∀ i (hi : i < ps.length), LP b D ps[i]) :
    Calls Tryd.prog 84 #[.pointer (some ⟨b, 0, none⟩), .slice p ps.length c] w fun e w' => e = .returned (.agg (prtA (rowN ps N ⟨true, noS, noS⟩).2)) ∧ Nk b (rowN ps N ⟨true, noS, noS⟩).1 w w' := by
  have hb := (Array.getElem?_eq_some_iff.1 hnet).1
  have S0 : Hid (RQ b w.heap.size N ⟨true, noS, noS⟩ w ((w.alloc (.cells prtZ 96)).alloc (.cells (prtA ⟨true, noS, noS⟩) 96))) := Lib.hid (by
    refine ⟨(Nk.start hnet).up (((Below.refl _ _).alloc (Nat.le_refl _) _).alloc (by simp) _), ?_, ?_⟩
    · rw [heap_alloc2_old]
    · rw [heap_alloc2_new])
  have HP := Lib.hid hp
  have HI := Lib.hid hI
  obtain ⟨R, hR⟩ : ∃ R, rowN ps N ⟨true, noS, noS⟩ = R := ⟨_, rfl⟩
  rw [hR]
  have HR := Lib.hid hR
  clear hnet hp hI hR
  go_enter Tryd.func84, Tryd.ntmps84
  go_upto_region 1 with fail
  refine wp_region_list ?_
  refine wpList_plain rfl fun K hK => ?_
  have hK2 := Lib.hid hK
  clear hK
  go_wp2_with fail
  refine hK2.out _ _ ?_
  clear hK2 K
  refine wpList_plain rfl fun K hK => ?_
  have hK2 := Lib.hid hK
  clear hK
  go_wp2_with fail
  refine hK2.out _ _ ?_
  clear hK2 K
  refine wpList_plain rfl fun K hK => wp_store_new 96 (.tmp 5) (.tmp 9) rfl #[.bool false, .int .u64 0, .int .u64 0, .int .u64 0, .int .u64 0, .int .u64 0, .int .u64 0, .int .u64 0, .int .u64 0, .int .u64 0, .int .u64 0, .int .u64 0, .int .u64 0, .int .u64 0, .int .u64 0, .int .u64 0, .int .u64 0] #[.bool true, .int .u64 0, .int .u64 0, .int .u64 0, .int .u64 0, .int .u64 0, .int .u64 0, .int .u64 0, .int .u64 0, .int .u64 0, .int .u64 0, .int .u64 0, .int .u64 0, .int .u64 0, .int .u64 0, .int .u64 0, .int .u64 0] _ (by simp) rfl rfl (by rw [info70]; rfl) rfl (by rw [show (#[.bool true, .int .u64 0, .int .u64 0, .int .u64 0, .int .u64 0, .int .u64 0, .int .u64 0, .int .u64 0, .int .u64 0, .int .u64 0, .int .u64 0, .int .u64 0, .int .u64 0, .int .u64 0, .int .u64 0, .int .u64 0, .int .u64 0] : Array Value) = prtA ⟨true, noS, noS⟩ from by simp [prtA, wf, W_noS]]; exact prtA_one _) (hK _ _ ?_)
  simp only [Act.put]
  refine wpList_nil ?_
  rw [show (#[.bool true, .int .u64 0, .int .u64 0, .int .u64 0, .int .u64 0, .int .u64 0, .int .u64 0, .int .u64 0, .int .u64 0, .int .u64 0, .int .u64 0, .int .u64 0, .int .u64 0, .int .u64 0, .int .u64 0, .int .u64 0, .int .u64 0] : Array Value) = prtA ⟨true, noS, noS⟩ from by simp [prtA, wf, W_noS]]
  rw [show (#[.bool false, .int .u64 0, .int .u64 0, .int .u64 0, .int .u64 0, .int .u64 0, .int .u64 0, .int .u64 0, .int .u64 0, .int .u64 0, .int .u64 0, .int .u64 0, .int .u64 0, .int .u64 0, .int .u64 0, .int .u64 0, .int .u64 0] : Array Value) = prtZ from rfl]
  generalize ((w.alloc (.cells prtZ 96)).alloc (.cells (prtA ⟨true, noS, noS⟩) 96)) = ws at *
  go_wp2
  go_loopw [12] (fun i wr => ∃ (j : Nat) (M : Net) (a : Prt), j ≤ ps.length ∧ i = .int .i64 j ∧ Hid (rowN (ps.drop j) M a = R) ∧ M.n + szL (ps.drop j) ≤ 512 ∧ Hid (RQ b w.heap.size M a w wr)) (fun i _ => ps.length - (intOf i).toNat)
  case atStart => exact ⟨0, N, ⟨true, noS, noS⟩, by omega, rfl, HR, by simpa using hn, S0⟩
  case round =>
    obtain ⟨j, M, a, hj, rfl, HC, hM, HS⟩ := hrel
    clear HR S0
    by_cases hlt : j < ps.length
    · have hne : ps ≠ [] := by intro e; subst e; simp at hlt
      obtain ⟨b', o, rfl, hDb, hx⟩ := HP.out hne
      obtain ⟨k', u', p', n', c', hv, hcell⟩ := hx j hlt
      have hbB := hD b' hDb
      have hbel := HS.out.1.2.1
      have cc : ∀ i y, (nodeC k' u' (.slice p' n' c'))[i]? = some y → wr.cell? ⟨b', o + j * 6 + i, none⟩ = some y := fun i y hy => by
        rw [hbel.cell (p := ⟨b', o + j * 6 + i, none⟩) hbB, ← hcell i y hy, show o + j * 6 + i = o + (6 * j + i) by omega]
      have d0 : wr.cell? ⟨b', o + j * 6, none⟩ = some (.int .i64 k') := cc 0 _ rfl
      have d1 : wr.cell? ⟨b', o + j * 6 + 1, none⟩ = some (.int .u64 (u' 0)) := cc 1 _ rfl
      have d2 : wr.cell? ⟨b', o + j * 6 + 2, none⟩ = some (.int .u64 (u' 1)) := cc 2 _ rfl
      have d3 : wr.cell? ⟨b', o + j * 6 + 3, none⟩ = some (.int .u64 (u' 2)) := cc 3 _ rfl
      have d4 : wr.cell? ⟨b', o + j * 6 + 4, none⟩ = some (.int .u64 (u' 3)) := cc 4 _ rfl
      have d5 : wr.cell? ⟨b', o + j * 6 + 5, none⟩ = some (.slice p' n' c') := cc 5 _ rfl
      have hab : Below wr.heap.size wr (wr.alloc (.cells #[.int .i64 k', .int .u64 (u' 0), .int .u64 (u' 1), .int .u64 (u' 2), .int .u64 (u' 3), .slice p' n' c'] 27)) := (Below.refl _ _).alloc (Nat.le_refl _) (.cells #[.int .i64 k', .int .u64 (u' 0), .int .u64 (u' 1), .int .u64 (u' 2), .int .u64 (u' 3), .slice p' n' c'] 27)
      have HS1 := Lib.hid (HS.out.up hab)
      have HV := Lib.hid (RV.mono (w' := wr.alloc (.cells #[.int .i64 k', .int .u64 (u' 0), .int .u64 (u' 1), .int .u64 (u' 2), .int .u64 (u' 3), .slice p' n' c'] 27)) (fun b h => h) (fun z hz hlt => (hab.block z (by have := hD z hz; have := HS.out.1.lt; omega)).trans (hbel.block z (hD z hz))) hv)
      have hlt' : (j : Int) < (ps.length : Int) := by omega
      have hC2 := (rowN_drop (N := M) (a := a) hlt).symm.trans HC.out
      rw [szL_drop hlt] at hM
      have hln := lay_n ps[j] M
      have HIj := Lib.hid ((HI.out j hlt).out M _ _ HS1.out.1.1 (by omega) HV.out)
      have hLt : w.heap.size + 1 < wr.heap.size := HS.out.lt
      clear hcell hv cc hx HC hbel
      obtain ⟨X, hX⟩ : ∃ X, layN ps[j] M = X := ⟨_, rfl⟩
      rw [hX] at hC2 hln HIj
      clear hX
      obtain ⟨Kn, q⟩ := X
      have HC2 := Lib.hid hC2
      clear hC2
      go_upto_region 5 with fail
      refine wp_region_list ?_
      refine wpList_plain rfl fun K hK => ?_
      have hK2 := Lib.hid hK
      clear hK
      go_wp2_with fail
      refine hK2.out _ _ ?_
      clear hK2 K
      refine wpList_plain rfl fun K hK => ?_
      have hK2 := Lib.hid hK
      clear hK
      go_wp2_with fail
      refine hK2.out _ _ ?_
      clear hK2 K
      refine wpList_plain rfl fun K hK => ?_
      have hK2 := Lib.hid hK
      clear hK
      go_wp2_with fail
      refine (HIj.out).mono ?_
      rintro _ x1 ⟨rfl, hk⟩
      refine hK2.out _ _ ?_
      clear hK2 K
      have hLx : wr.heap.size < x1.heap.size := by have := hk.2.1.size; simp at this; omega
      have H1 := Lib.hid (HS1.out.step hb hk)
      clear hk HIj HV HS1 HS hab d0 d1 d2 d3 d4 d5
      refine wpList_plain rfl fun K hK => ?_
      have hK2 := Lib.hid hK
      clear hK
      go_wp2_with fail
      refine hK2.out _ _ ?_
      clear hK2 K
      rw [show (#[.bool false, .int .u64 0, .int .u64 0, .int .u64 0, .int .u64 0, .int .u64 0, .int .u64 0, .int .u64 0, .int .u64 0, .int .u64 0, .int .u64 0, .int .u64 0, .int .u64 0, .int .u64 0, .int .u64 0, .int .u64 0, .int .u64 0] : Array Value) = prtZ from rfl]
      refine wpList_plain rfl fun K hK => wp_store_new 96 (.tmp 8) (.tmp 18) rfl prtZ (prtA q) _ (by simp) rfl rfl (by rw [info70, prtA_size]) (by rw [prtA_size]; rfl) (prtA_one q) (hK _ _ ?_)
      simp only [Act.put]
      refine wpList_nil ?_
      refine at_worldQ (fun y => RW b w.heap.size x1.heap.size Kn a q w y) ⟨H1.out.up ((Below.refl _ _).alloc (Nat.le_refl _) _), heap_alloc_last x1 _⟩ fun x2 hx2 => ?_
      have H2 := Lib.hid hx2
      clear hx2 H1
      have hAP : w.heap.size + 1 < x1.heap.size := by omega
      generalize x1.heap.size = P at *
      clear hLx
      have HLk := Lib.hid (link_any a.l q.f H2.out.1.1.1 (by show Kn.n ≤ 512; omega))
      go_upto_region 6 with fail
      refine wp_region_list ?_
      refine wpList_plain rfl fun K hK => ?_
      have hK2 := Lib.hid hK
      clear hK
      go_wp2_with fail
      refine hK2.out _ _ ?_
      clear hK2 K
      refine wpList_plain rfl fun K hK => ?_
      have hK2 := Lib.hid hK
      clear hK
      go_wp2_with fail
      refine hK2.out _ _ ?_
      clear hK2 K
      refine wpList_plain rfl fun K hK => wp_load_sp (.tmp 20) rfl (w.heap.size + 1) 9 rfl a.l (H2.out.1.rl) (hK _ _ ?_)
      simp only [Act.put, List.setIfInBounds_toArray, List.set_cons_succ, List.set_cons_zero]
      refine wpList_plain rfl fun K hK => ?_
      have hK2 := Lib.hid hK
      clear hK
      go_wp2_with fail
      refine hK2.out _ _ ?_
      clear hK2 K
      refine wpList_plain rfl fun K hK => wp_load_sp (.tmp 22) rfl P 1 rfl q.f (H2.out.rpf) (hK _ _ ?_)
      simp only [Act.put, List.setIfInBounds_toArray, List.set_cons_succ, List.set_cons_zero]
      refine wpList_plain rfl fun K hK => ?_
      have hK2 := Lib.hid hK
      clear hK
      go_wp2_with fail
      refine (HLk.out).mono ?_
      rintro _ x3 ⟨rfl, hk⟩
      refine hK2.out _ _ ?_
      clear hK2 K
      refine wpList_nil ?_
      have H3 := Lib.hid (H2.out.step hb hAP hk)
      clear hk HLk H2
      have a0 : x3.cell? ⟨w.heap.size + 1, 0, none⟩ = some (.bool a.e) := H3.out.1.a 0
      go_upto_if 26 with fail
      go_cut [12] from 12 to 51 (fun s12 wx => s12 = .int .i64 (j : Nat) ∧ RW b w.heap.size P (Kn.link a.l q.f) (⟨a.e, bif a.e then orS a.f q.f else a.f, a.l⟩ : Prt) q w wx)
      case first =>
        cases hae : a.e with
        | true =>
          rw [hae] at a0
          have HE := Lib.hid (either_any a.f q.f)
          go_upto_region 8 with fail
          refine wp_region_list ?_
          refine wpList_plain rfl fun K hK => ?_
          have hK2 := Lib.hid hK
          clear hK
          go_wp2_with fail
          refine hK2.out _ _ ?_
          clear hK2 K
          refine wpList_plain rfl fun K hK => wp_load_sp (.tmp 27) rfl (w.heap.size + 1) 1 rfl a.f (H3.out.1.rf) (hK _ _ ?_)
          simp only [Act.put, List.setIfInBounds_toArray, List.set_cons_succ, List.set_cons_zero]
          refine wpList_plain rfl fun K hK => ?_
          have hK2 := Lib.hid hK
          clear hK
          go_wp2_with fail
          refine hK2.out _ _ ?_
          clear hK2 K
          refine wpList_plain rfl fun K hK => wp_load_sp (.tmp 29) rfl P 1 rfl q.f (H3.out.rpf) (hK _ _ ?_)
          simp only [Act.put, List.setIfInBounds_toArray, List.set_cons_succ, List.set_cons_zero]
          refine wpList_plain rfl fun K hK => ?_
          have hK2 := Lib.hid hK
          clear hK
          go_wp2_with fail
          refine (HE.out _).mono ?_
          rintro _ x4 ⟨rfl, hb4⟩
          refine hK2.out _ _ ?_
          clear hK2 K
          have H4 := Lib.hid (H3.out.up hb4)
          clear hb4 HE a0
          refine wpList_plain rfl fun K hK => ?_
          have hK2 := Lib.hid hK
          clear hK
          go_wp2_with fail
          refine hK2.out _ _ ?_
          clear hK2 K
          refine wpList_plain rfl fun K hK => wp_store_sp (.tmp 32) (.tmp 31) rfl (w.heap.size + 1) 1 (orS a.f q.f) rfl rfl (H4.out.1.ta 1 (by omega)) (hK _ _ ?_)
          simp only [Act.put]
          refine wpList_nil ?_
          go_wp2_with fail
          go_meet
          case rel => exact ⟨rfl, H4.out.setA hb rfl hAP 1 (spL (orS a.f q.f)) (by rw [putA_f, hae]; rfl)⟩
        | false =>
          rw [hae] at a0
          go_wp2_with fail
          go_meet
          case rel => exact ⟨rfl, by rw [hae]; have := H3.out; rw [show a = ⟨a.e, a.f, a.l⟩ from rfl, hae] at this; exact this⟩
      case rest =>
        obtain ⟨rfl, h5⟩ := hcut
        have H5 := Lib.hid h5
        clear h5 H3 a0
        have p0 : wc.cell? ⟨P, 0, none⟩ = some (.bool q.e) := H5.out.p 0
        go_upto_if 34 with fail
        go_cut [12] from 12 to 51 (fun s12 wx => s12 = .int .i64 (j : Nat) ∧ RW b w.heap.size P (Kn.link a.l q.f) (⟨a.e, bif a.e then orS a.f q.f else a.f, a.l⟩ : Prt) (⟨q.e, q.f, bif q.e then orS a.l q.l else q.l⟩ : Prt) w wx)
        case first =>
          cases hqe : q.e with
          | true =>
            rw [hqe] at p0
            have HE := Lib.hid (either_any a.l q.l)
            go_upto_region 10 with fail
            refine wp_region_list ?_
            refine wpList_plain rfl fun K hK => ?_
            have hK2 := Lib.hid hK
            clear hK
            go_wp2_with fail
            refine hK2.out _ _ ?_
            clear hK2 K
            refine wpList_plain rfl fun K hK => wp_load_sp (.tmp 35) rfl (w.heap.size + 1) 9 rfl a.l (H5.out.1.rl) (hK _ _ ?_)
            simp only [Act.put, List.setIfInBounds_toArray, List.set_cons_succ, List.set_cons_zero]
            refine wpList_plain rfl fun K hK => ?_
            have hK2 := Lib.hid hK
            clear hK
            go_wp2_with fail
            refine hK2.out _ _ ?_
            clear hK2 K
            refine wpList_plain rfl fun K hK => wp_load_sp (.tmp 37) rfl P 9 rfl q.l (H5.out.rpl) (hK _ _ ?_)
            simp only [Act.put, List.setIfInBounds_toArray, List.set_cons_succ, List.set_cons_zero]
            refine wpList_plain rfl fun K hK => ?_
            have hK2 := Lib.hid hK
            clear hK
            go_wp2_with fail
            refine (HE.out _).mono ?_
            rintro _ x4 ⟨rfl, hb4⟩
            refine hK2.out _ _ ?_
            clear hK2 K
            have H6 := Lib.hid (H5.out.up hb4)
            clear hb4 HE p0
            refine wpList_plain rfl fun K hK => ?_
            have hK2 := Lib.hid hK
            clear hK
            go_wp2_with fail
            refine hK2.out _ _ ?_
            clear hK2 K
            refine wpList_plain rfl fun K hK => wp_store_sp (.tmp 40) (.tmp 39) rfl P 9 (orS a.l q.l) rfl rfl (H6.out.tp 9 (by omega)) (hK _ _ ?_)
            simp only [Act.put]
            refine wpList_nil ?_
            go_wp2_with fail
            go_meet
            case rel => exact ⟨rfl, H6.out.setP hb rfl hAP 9 (spL (orS a.l q.l)) (by rw [putA_l, hqe]; rfl)⟩
          | false =>
            rw [hqe] at p0
            go_wp2_with fail
            go_meet
            case rel => exact ⟨rfl, by rw [hqe]; have := H5.out; rw [show q = ⟨q.e, q.f, q.l⟩ from rfl, hqe] at this; exact this⟩
        case rest =>
          obtain ⟨rfl, h7⟩ := hcut
          have H7 := Lib.hid h7
          clear h7 H5 p0
          obtain ⟨f1, hf1⟩ : ∃ f, (bif a.e then orS a.f q.f else a.f) = f := ⟨_, rfl⟩
          obtain ⟨l1, hl1⟩ : ∃ l, (bif q.e then orS a.l q.l else q.l) = l := ⟨_, rfl⟩
          rw [hf1, hl1] at H7
          have hcat : a.cat q = ⟨a.e && q.e, f1, l1⟩ := by rw [← hf1, ← hl1]; rfl
          rw [hcat] at HC2
          clear hcat hf1 hl1
          obtain ⟨ae, hae⟩ : ∃ x, a.e = x := ⟨_, rfl⟩
          obtain ⟨qe, hqe⟩ : ∃ x, q.e = x := ⟨_, rfl⟩
          rw [hae, hqe] at H7 HC2
          go_upto_region 11 with fail
          refine wp_region_list ?_
          refine wpList_plain rfl fun K hK => ?_
          have hK2 := Lib.hid hK
          clear hK
          go_wp2_with fail
          refine hK2.out _ _ ?_
          clear hK2 K
          refine wpList_plain rfl fun K hK => wp_load_sp (.tmp 41) rfl P 9 rfl l1 (H7.out.rpl) (hK _ _ ?_)
          simp only [Act.put, List.setIfInBounds_toArray, List.set_cons_succ, List.set_cons_zero]
          refine wpList_plain rfl fun K hK => ?_
          have hK2 := Lib.hid hK
          clear hK
          go_wp2_with fail
          refine hK2.out _ _ ?_
          clear hK2 K
          refine wpList_plain rfl fun K hK => wp_store_sp (.tmp 43) (.tmp 42) rfl (w.heap.size + 1) 9 l1 rfl rfl (H7.out.1.ta 9 (by omega)) (hK _ _ ?_)
          simp only [Act.put]
          refine wpList_nil ?_
          refine at_worldQ (fun y => RW b w.heap.size P (Kn.link a.l q.f) ⟨ae, f1, l1⟩ ⟨qe, q.f, l1⟩ w y) (H7.out.setA hb rfl hAP 9 (spL l1) (putA_l _ _)) fun x8 hx8 => ?_
          have H8 := Lib.hid hx8
          clear hx8 H7
          have p0 : x8.cell? ⟨P, 0, none⟩ = some (.bool qe) := H8.out.p 0
          have a0 : x8.cell? ⟨w.heap.size + 1, 0, none⟩ = some (.bool ae) := H8.out.1.a 0
          have fa0 : x8.frozen? ⟨w.heap.size + 1, 0, none⟩ = false := H8.out.1.fa 0
          cases ae with
          | true =>
            go_upto_region 13 with fail
            refine at_world (fun y => RW b w.heap.size P (Kn.link a.l q.f) ⟨true && qe, f1, l1⟩ ⟨qe, q.f, l1⟩ w y) (H8.out.setA hb rfl hAP 0 [.bool qe] (putA_e _ _)) fun x9 hx9 => ?_
            have H9 := Lib.hid hx9.1
            clear hx9 H8 p0 a0 fa0
            go_wp2
            go_roundw
            case rel => exact ⟨j + 1, (Kn.link a.l q.f), _, by omega, by go_num, HC2, by show Kn.n + _ ≤ 512; omega, H9⟩
            case measure => simp [intOf]; omega
          | false =>
            go_upto_region 13 with fail
            refine at_world (fun y => RW b w.heap.size P (Kn.link a.l q.f) ⟨false && qe, f1, l1⟩ ⟨qe, q.f, l1⟩ w y) (H8.out.setA hb rfl hAP 0 [.bool false] (putA_e _ _)) fun x9 hx9 => ?_
            have H9 := Lib.hid hx9.1
            clear hx9 H8 p0 a0 fa0
            go_wp2
            go_roundw
            case rel => exact ⟨j + 1, (Kn.link a.l q.f), _, by omega, by go_num, HC2, by show Kn.n + _ ≤ 512; omega, H9⟩
            case measure => simp [intOf]; omega
    · obtain rfl : j = ps.length := by omega
      have hlt' : ¬ ((ps.length : Int) < (ps.length : Int)) := by omega
      have hr : R = (M, a) := by rw [← HC.out, List.drop_length, rowN]
      subst hr
      clear HC
      have HK := Lib.hid HS.out.1
      go_upto_region 14 with fail
      refine wp_region_list ?_
      refine wpList_plain rfl fun K hK => wp_load_prt (.tmp 5) rfl (w.heap.size + 1) rfl a (HS.out.2.2) (hK _ _ ?_)
      simp only [Act.put, List.setIfInBounds_toArray, List.set_cons_succ, List.set_cons_zero]
      refine wpList_plain rfl fun K hK => wp_store_prt (.tmp 4) (.tmp 52) rfl w.heap.size prtZ a rfl rfl (HS.out.2.1) (rfl) (hK _ _ ?_)
      simp only [Act.put]
      refine wpList_nil ?_
      refine at_worldQ (fun y => Nk b M w y ∧ y.heap[w.heap.size]? = some (.cells (prtA a) 96 (0, 0))) ⟨HK.out.set hb (Nat.le_refl _) _, (setCells_heap _ 0 _ _ HS.out.2.1).trans (by rw [putA_all prtZ a rfl])⟩ fun y hy => ?_
      have hv := load_prt hy.2
      have HN := Lib.hid hy.1
      clear hy
      go_wp2_with fail
      refine bodyPost_ret (v := .agg (prtA a)) (by simp [results, Tryd.results84, asAddr, hv]) rfl ⟨rfl, ?_⟩
      exact HN.out
end Go.Proofs.YthglciccejholaaDoor.R5
end
