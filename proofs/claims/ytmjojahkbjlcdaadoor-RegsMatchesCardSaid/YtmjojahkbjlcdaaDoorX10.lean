/- Texts of package regs, one behind the other. -/
import Derived.Test.YtmjojahkbjlcdaaDoorProg
import Derived.Test.YtmjojahkbjlcdaaDoorX3
import Derived.Test.YtmjojahkbjlcdaaDoorX4
import Derived.WalkKit
import Derived.WalkLawsBesides
import Derived.WalkSpells
import Derived.Outline
import Derived.Lib.Walk
import Derived.Lib.Hide
import Derived.RegionTactic
import Derived.LoopTactic
import Derived.Below
import Derived.IntWalk
import Derived.Deep.QuietTactic
import Derived.BigQuiet
import Derived.Test.YtmjojahkbjlcdaaDoorG8
import Derived.Test.YtmjojahkbjlcdaaDoorX2
section
/- Package regs: the reader's small steps: what comes next. -/
namespace Go.Proofs.YtmjojahkbjlcdaaDoor
set_option linter.unusedSimpArgs false
set_option linter.unusedVariables false
set_option maxRecDepth 100000
open Go.RowKit

/-- A class: what it says, what is left, or what is left where it may not stand. -/
def csl (l : List UInt8) : Except (List UInt8) (Value × List UInt8) :=
  match cl ((hat l.tail).length + 1) (hat l.tail) with
  | .error t => .error t
  | .ok (_, t) => .ok (setO (ps (l.take (l.length - t.length))), t)
theorem Suf.two {s : ByteArray} {a b : List UInt8} (ha : Suf s a) (hb : Suf s b) (h : b.length ≤ a.length) : a = a.take (a.length - b.length) ++ b := by
  obtain ⟨p, hp⟩ := ha
  obtain ⟨q, hq⟩ := hb
  rw [hp] at hq
  have e : a = (p ++ a).drop p.length := by simp
  have hl : (p ++ a).length = (q ++ b).length := by rw [hq]
  simp only [List.length_append] at hl
  have e2 : b = a.drop (a.length - b.length) := by
    have h1 : b = (q ++ b).drop q.length := by simp
    rw [← hq] at h1
    have h2 : q.length = p.length + (a.length - b.length) := by omega
    rw [h2, ← List.drop_drop, List.drop_left' rfl] at h1
    exact h1
  conv => lhs; rw [← List.take_append_drop (a.length - b.length) a]
  rw [← e2]
theorem cl_len : ∀ (k : Nat) {l t : List UInt8}, cl k l = .ok ((), t) → t.length ≤ l.length
  | 0, l, t, h => by simp [cl] at h
  | k + 1, l, t, h => by
    rw [cl] at h
    by_cases hh : l.head? = some 93
    · rw [if_pos hh] at h; cases h; simp
    · rw [if_neg hh] at h
      cases hi : itl l with
      | error q => rw [hi] at h; cases h
      | ok v =>
        obtain ⟨⟨⟩, r⟩ := v
        rw [hi] at h
        have h1 := cl_len k h
        have h2 := itl_len hi
        omega
theorem class_any5 {rb : Nat} {s : ByteArray} {r : List UInt8} {w : World} (h : GA rb s (91 :: r) w) (hs : s.size ≤ 1000) :
    Calls Tryd.prog 106 #[.pointer (some ⟨rb, 0, none⟩)] w (StepP rb s w (csl (91 :: r)) id) := by
  have hs' : s.size ≤ 9223372036854775806 := by omega
  have hh : hat r = if ahl (⟨#[94]⟩ : ByteArray).data.toList r then r.tail else r := by
    rw [ahl_one]; unfold hat; by_cases h1 : r.head? = some 94 <;> simp [h1]
  have hP2 := ps_hid (rb := rb) ⟨#[94]⟩ h.1.tl hs' _ rfl
  rw [← hh] at hP2
  have hsuf : Suf s (hat r) := by
    unfold hat; split
    · cases r with
      | nil => exact h.1.tl
      | cons c t => exact h.1.tl.tl
    · exact h.1.tl
  have hl : (hat r).length ≤ r.length := by unfold hat; split <;> simp
  refine (class_walk (hat r) hs (by simp; omega) rfl hsuf h.2 (ps_hid ⟨#[91]⟩ h.1 hs' true rfl) _ hP2 (Lib.hid fun q w hq => item_any5 hq hs') (fun q hq => ?_)).mono fun e w' k => ?_
  · have := ps_hid (rb := rb) ⟨#[93]⟩ hq hs' _ (ahl_one 93 q)
    by_cases h1 : q.head? = some 93
    · simpa [h1] using this
    · simpa [h1] using this
  · unfold csl
    simp only [List.tail_cons]
    cases hc : cl ((hat r).length + 1) (hat r) with
    | error t => rw [hc] at k; exact k
    | ok v =>
      obtain ⟨⟨⟩, t⟩ := v
      rw [hc] at k
      have ht := k.2.2.1
      have h1 := cl_len _ hc
      have h2 := Suf.two h.1 ht (by simp; omega)
      have h3 := Suf.ext (s := s) (a := (91 :: r).take ((91 :: r).length - t.length)) (q := t) (by rw [← h2]; exact h.1)
      rw [← h2] at h3
      refine ⟨?_, k.2⟩
      rw [k.1, h3]
      simp [bs]

/-- A pattern, as the memory has it. -/
inductive RT where
  | mk (k : Int) (u : Nat → Int) (ps : List RT)
def nodeC (k : Int) (u : Nat → Int) (sl : Value) : Array Value := #[.int .i64 k, .int .u64 (u 0), .int .u64 (u 1), .int .u64 (u 2), .int .u64 (u 3), sl]
def u0 : Nat → Int := fun _ => 0
/-- The pattern t lies in the world as the value v; its parts lie in blocks of D. -/
inductive RV (D : Nat → Prop) (w : World) : RT → Value → Prop where
  | leaf (k : Int) (u : Nat → Int) (p : Option Addr) (c : Nat) : RV D w (.mk k u []) (.agg (nodeC k u (.slice p 0 c)))
  | node (k : Int) (u : Nat → Int) (ps : List RT) (b o c : Nat) (xs : Nat → Array Value) (hD : D b) (hn : ps ≠ []) (hx : ∀ i (h : i < ps.length), RV D w ps[i] (.agg (xs i)))
      (hc : ∀ i, i < ps.length → ∀ j, j < 6 → ∃ y, (xs i)[j]? = some y ∧ w.cell? ⟨b, o + (6 * i + j), none⟩ = some y) : RV D w (.mk k u ps) (.agg (nodeC k u (.slice (some ⟨b, o, none⟩) ps.length c)))
theorem RV.mono {D E : Nat → Prop} {w w' : World} (hE : ∀ b, D b → E b) (hw : ∀ b, D b → b < w.heap.size → w'.heap[b]? = w.heap[b]?) {t : RT} {v : Value} (h : RV D w t v) : RV E w' t v := by
  induction h with
  | leaf k u p c => exact .leaf k u p c
  | node k u ps b o c xs hD hn hx hc ih =>
    refine .node k u ps b o c xs (hE b hD) hn ih (fun i hi j hj => ?_)
    obtain ⟨y, h1, h2⟩ := hc i hi j hj
    refine ⟨y, h1, ?_⟩
    have hb := block_lt_of_cell h2
    rw [← h2]
    unfold World.cell?
    simp only [hw b hD hb]
/-- What a step that makes a pattern does. -/
def TreeP (rb : Nat) (s : ByteArray) (w : World) (r : Except (List UInt8) (RT × List UInt8)) (e : Ending) (w' : World) : Prop :=
  match r with
  | .error q => e = boom ∧ GK rb s q w w'
  | .ok (t, q) => (∃ v, e = .returned v ∧ RV (fun b => w.heap.size ≤ b ∧ b < w'.heap.size) w' t v) ∧ GK rb s q w w'
end Go.Proofs.YtmjojahkbjlcdaaDoor
end
section
/- A set's value over four letters. -/
namespace Go.Proofs.YtmjojahkbjlcdaaDoor
set_option linter.unusedSimpArgs false
set_option linter.unusedVariables false
set_option maxRecDepth 100000
open Go.RowKit

/-- A set's value of four numbers, whatever they are. -/
abbrev vv (u : Nat → Int) : Value := .agg #[.int .u64 (u 0), .int .u64 (u 1), .int .u64 (u 2), .int .u64 (u 3)]
def vc (u : Nat → Int) : Array Value := #[.int .u64 (u 0), .int .u64 (u 1), .int .u64 (u 2), .int .u64 (u 3)]
/-- The numbers of a set. -/
def wf (f : Nat → Bool) (i : Nat) : Int := (W f i : Nat)
theorem Sb.vw {w0 w : World} {b : Nat} {u : Nat → Int} {t : TypeId} {fr : Nat × Nat} {L : List (Nat × Obj)} (h : Sb w0 w ((b, .cells (vc u) t fr) :: L)) (j : Nat) (hj : j < 4) : w.cell? ⟨b, j, none⟩ = some (.int .u64 (u j)) := by
  rw [h.cell j]; rcases (by omega : j = 0 ∨ j = 1 ∨ j = 2 ∨ j = 3) with rfl | rfl | rfl | rfl <;> rfl
theorem i24v (u : Nat → Int) : (Tryd.prog.info? 24).map (·.size) = some (vc u).size := by
  rw [show (vc u).size = 4 from rfl]; kernel_rfl
theorem vc_one (u : Nat → Int) : (vc u).all (·.oneCell') = true := by
  unfold vc
  simp only [Array.all_eq_true]
  intro i hi
  have : i < 4 := hi
  rcases (by omega : i = 0 ∨ i = 1 ∨ i = 2 ∨ i = 3) with rfl | rfl | rfl | rfl <;> rfl
end Go.Proofs.YtmjojahkbjlcdaaDoor
end
section
/- Package regs: the reader's small steps: what comes next. -/
namespace Go.Proofs.YtmjojahkbjlcdaaDoor
set_option linter.unusedSimpArgs false
set_option linter.unusedVariables false
set_option maxRecDepth 100000
open Go.RowKit

def inlF (b : Nat) : Bool := !(ofL [10] b)
abbrev z4 : Array Value := #[.int .u64 0, .int .u64 0, .int .u64 0, .int .u64 0]
set_option maxHeartbeats 1000000 in
theorem inLine_abs (u o : Nat → Int) (h1 : Hid (∀ w, Calls Tryd.prog 90 #[.string ⟨#[10]⟩] w fun e w' => e = .returned (vv u) ∧ Below w.heap.size w w')) (h2 : Hid (∀ w, Calls Tryd.prog 89 #[vv u] w fun e w' => e = .returned (vv o) ∧ Below w.heap.size w w')) (w : World) :
    Calls Tryd.prog 70 #[] w fun e w' => e = .returned (vv o) ∧ Below w.heap.size w w' := by
  have S0 := Lib.hid ((Sb.start w).alloc (.cells z4 24))
  go_enter Tryd.func70, Tryd.ntmps70
  go_wp2_with fail
  refine (h1.out _).mono ?_
  rintro _ w1 ⟨rfl, hb⟩
  have S1 := Lib.hid (S0.out.up hb)
  clear hb
  go_wp2_with fail
  refine (h2.out _).mono ?_
  rintro _ w2 ⟨rfl, hb⟩
  have S2 := Lib.hid (S1.out.up hb)
  clear hb S0 S1
  go_wp2_with (refine wpList_store_row rfl 24 (.tmp 0) (.tmp 2) rfl w.heap.size (vc o) rfl rfl 24 _ S2.out.heap (i24v o) rfl (vc_one o) ?_)
  have hE := S2.out.setRow (cs' := vc o) (by simp)
  exact bodyPost_ret (v := vv o) (results_cell_row rfl _ _ w.heap.size 24 (vc o) (0, 0) _ rfl hE.heap Tryd.underlying24 rfl (i24v o)) rfl ⟨rfl, hE.1⟩
theorem inLine_any (w : World) : Calls Tryd.prog 70 #[] w fun e w' => e = .returned (vv (wf inlF)) ∧ Below w.heap.size w w' :=
  inLine_abs (wf (ofL [10])) (wf inlF) (Lib.hid fun w => of_any (bs [10]) (by decide) w) (Lib.hid fun w => not_any (ofL [10]) w) w
theorem range1_any (c : UInt8) (w : World) : Calls Tryd.prog 108 #[.int .u8 c.toNat, .int .u8 c.toNat] w fun e w' => e = .returned (vv (wf (rangeF c.toNat 1))) ∧ Below w.heap.size w w' := by
  have h := range_any c.toNat c.toNat c.toNat_lt c.toNat_lt w
  rw [show c.toNat + 1 - c.toNat = 1 by omega] at h
  exact h

def uO : Option (Nat → Bool) → (Nat → Int)
  | some f => wf f
  | none => u0
theorem setO_uO (o : Option (Nat → Bool)) : setO o = vv (uO o) := by cases o <;> rfl
def setT (u : Nat → Int) : RT := .mk 2 u []
/-- The class ahead: what it says. -/
def csu (l : List UInt8) (t : List UInt8) : Nat → Int := uO (ps (l.take (l.length - t.length)))
/-- An atom; ch: what stands in brackets. -/
def atomF (ch : List UInt8 → Except (List UInt8) (RT × List UInt8)) (l : List UInt8) : Except (List UInt8) (RT × List UInt8) :=
  if l.head? = some 40 then match ch l.tail with
    | .error q => .error q
    | .ok (t, q) => match q with
      | [] => .error []
      | _ :: q' => .ok (t, q')
  else if l.head? = some 91 then match csl l with
    | .error q => .error q
    | .ok (_, t) => .ok (setT (csu l t), t)
  else if l.head? = some 46 then .ok (setT (wf inlF), l.tail)
  else match sgl l with
    | .error q => .error q
    | .ok (c, q) => .ok (setT (wf (rangeF c.toNat 1)), q)
def AH (rb : Nat) (B : ByteArray) (s : ByteArray) (n : Nat) (v : Bool) : Prop := Hid (∀ w, Gat rb s n w → Calls Tryd.prog 83 #[.pointer (some ⟨rb, 0, none⟩), .string B] w fun e w' => e = .returned (.bool v) ∧ Gk rb s n w w')
theorem infoR : (Tryd.prog.info? 27).map (fun i => (i.zero, i.size)) = some (some (.agg (nodeC 0 u0 (.slice none 0 0))), 6) := by kernel_rfl
theorem zero27r (w : World) : (zeroValue 27).run Tryd.prog w = .ok (.agg (nodeC 0 u0 (.slice none 0 0))) w := (zero_of_info infoR).1 w
theorem size27r : (Tryd.prog.info? 27).map (·.size) = some 6 := (zero_of_info infoR).2
theorem nodeC_one (k : Int) (u : Nat → Int) (p : Option Addr) (n c : Nat) : (nodeC k u (.slice p n c)).all (·.oneCell') = true := by
  simp only [Array.all_eq_true]
  intro i hi
  have : i < 6 := hi
  rcases (by omega : i = 0 ∨ i = 1 ∨ i = 2 ∨ i = 3 ∨ i = 4 ∨ i = 5) with rfl | rfl | rfl | rfl | rfl | rfl <;> rfl
set_option maxHeartbeats 4000000 in
theorem atom_D {rb n0 n1 n2 n3 n4 : Nat} {s : ByteArray} {w : World} (b : UInt8) (u : Nat → Int) (h0 : Gat rb s n0 w) (hP1 : PS rb ⟨#[40]⟩ s n0 false n1) (hA : AH rb ⟨#[91]⟩ s n1 false) (hP2 : PS rb ⟨#[46]⟩ s n1 false n2)
    (hS : Hid (∀ w, Gat rb s n2 w → Calls Tryd.prog 107 #[.pointer (some ⟨rb, 0, none⟩)] w fun e w' => e = .returned (.int .u8 b.toNat) ∧ Gk rb s n3 w w'))
    (hR : Hid (∀ w, Calls Tryd.prog 108 #[.int .u8 b.toNat, .int .u8 b.toNat] w fun e w' => e = .returned (vv u) ∧ Below w.heap.size w w')) :
    Calls Tryd.prog 98 #[.pointer (some ⟨rb, 0, none⟩)] w fun e w' => e = .returned (.agg (nodeC 2 u (.slice none 0 0))) ∧ Gk rb s n3 w w' := by
  have HU := Lib.hid (Gk.up h0 ((Below.refl _ _).alloc (Nat.le_refl _) (.cells (nodeC 0 u0 (.slice none 0 0)) 27)))
  have HB2 := Lib.hid (heap_alloc_last w (.cells (nodeC 0 u0 (.slice none 0 0)) 27))
  have hne : w.heap.size ≠ rb := by have := h0.lt; omega
  have hz := zero27r
  clear h0
  go_enter Tryd.func98, Tryd.ntmps98
  go_wp2_with fail
  generalize hwA : w.alloc (.cells (nodeC 0 u0 (.slice none 0 0)) 27) = wA at *
  clear hwA
  generalize hb2 : w.heap.size = b2 at *
  refine (hP1.out _ HU.out.2).mono ?_
  rintro _ w1 ⟨rfl, hk⟩
  have H1 := Lib.hid ((Gk.refl HU.out.2).trans hk)
  clear hk
  go_wp2_with fail
  refine (hA.out _ H1.out.2).mono ?_
  rintro _ w2 ⟨rfl, hk⟩
  have H2 := Lib.hid (H1.out.trans hk)
  clear hk H1
  go_wp2_with fail
  refine (hP2.out _ H2.out.2).mono ?_
  rintro _ w3 ⟨rfl, hk⟩
  have H3 := Lib.hid (H2.out.trans hk)
  clear hk H2
  go_wp2_with fail
  refine (hS.out _ H3.out.2).mono ?_
  rintro _ w4 ⟨rfl, hk⟩
  have H4 := Lib.hid (H3.out.trans hk)
  clear hk H3
  go_wp2_with fail
  refine (hR.out _).mono ?_
  rintro _ w5 ⟨rfl, hb⟩
  have H5 := Lib.hid (H4.out.trans (Gk.up H4.out.2 hb))
  clear hb H4
  have HY : Hid (w5.heap[b2]? = some (.cells (nodeC 0 u0 (.slice none 0 0)) 27)) := Lib.hid (by
    rw [H5.out.1.block b2 (Array.getElem?_eq_some_iff.1 HB2.out).1 (fun e => hne (Option.some.inj e)), HB2.out])
  go_wp2_with (refine wpList_store_row rfl 27 (.tmp 2) (.tmp 29) rfl b2 (nodeC 2 u (.slice none 0 0)) rfl rfl 27 _ HY.out size27r rfl (nodeC_one _ _ _ _ _) ?_)
  exact bodyPost_ret (v := .agg (nodeC 2 u (.slice none 0 0))) (results_cell_row rfl _ _ b2 27 _ (0, 0) _ rfl (setRow_heap w5 b2 _ _ 27 (0, 0) HY.out) Tryd.underlying27 rfl size27r) rfl ⟨rfl, Gk.row (HU.out.trans H5.out) (by omega) hne⟩
end Go.Proofs.YtmjojahkbjlcdaaDoor
end
section
/- Package regs: the reader's small steps: what comes next. -/
namespace Go.Proofs.YtmjojahkbjlcdaaDoor
set_option linter.unusedSimpArgs false
set_option linter.unusedVariables false
set_option maxRecDepth 100000
open Go.RowKit

theorem RV.form {D : Nat → Prop} {w : World} {t : RT} {v : Value} (h : RV D w t v) : ∃ k u p n c, v = .agg (nodeC k u (.slice p n c)) := by
  cases h with
  | leaf k u p c => exact ⟨_, _, _, _, _, rfl⟩
  | node k u ps b o c xs hD hn hx hc => exact ⟨_, _, _, _, _, rfl⟩
theorem Gk.old {rb n b : Nat} {s : ByteArray} {w w' : World} (h : Gk rb s n w w') (hb : b < w.heap.size) (hne : b ≠ rb) : w'.heap[b]? = w.heap[b]? := h.1.block b hb (fun e => hne (Option.some.inj e))
set_option maxHeartbeats 4000000 in
theorem atom_C {rb n0 n1 n2 : Nat} {s : ByteArray} {w : World} (u : Nat → Int) (h0 : Gat rb s n0 w) (hP1 : PS rb ⟨#[40]⟩ s n0 false n1) (hA : AH rb ⟨#[91]⟩ s n1 false) (hP2 : PS rb ⟨#[46]⟩ s n1 true n2)
    (hR : Hid (∀ w, Calls Tryd.prog 70 #[] w fun e w' => e = .returned (vv u) ∧ Below w.heap.size w w')) :
    Calls Tryd.prog 98 #[.pointer (some ⟨rb, 0, none⟩)] w fun e w' => e = .returned (.agg (nodeC 2 u (.slice none 0 0))) ∧ Gk rb s n2 w w' := by
  have HU := Lib.hid (Gk.up h0 ((Below.refl _ _).alloc (Nat.le_refl _) (.cells (nodeC 0 u0 (.slice none 0 0)) 27)))
  have HB2 := Lib.hid (heap_alloc_last w (.cells (nodeC 0 u0 (.slice none 0 0)) 27))
  have hne : w.heap.size ≠ rb := by have := h0.lt; omega
  have hz := zero27r
  clear h0
  go_enter Tryd.func98, Tryd.ntmps98
  go_wp2_with fail
  generalize hwA : w.alloc (.cells (nodeC 0 u0 (.slice none 0 0)) 27) = wA at *
  clear hwA
  generalize hb2 : w.heap.size = b2 at *
  refine (hP1.out _ HU.out.2).mono ?_
  rintro _ w1 ⟨rfl, hk⟩
  have H1 := Lib.hid ((Gk.refl HU.out.2).trans hk)
  clear hk
  go_wp2_with fail
  refine (hA.out _ H1.out.2).mono ?_
  rintro _ w2 ⟨rfl, hk⟩
  have H2 := Lib.hid (H1.out.trans hk)
  clear hk H1
  go_wp2_with fail
  refine (hP2.out _ H2.out.2).mono ?_
  rintro _ w3 ⟨rfl, hk⟩
  have H3 := Lib.hid (H2.out.trans hk)
  clear hk H2
  go_wp2_with fail
  refine (hR.out _).mono ?_
  rintro _ w5 ⟨rfl, hb⟩
  have H5 := Lib.hid (H3.out.trans (Gk.up H3.out.2 hb))
  clear hb H3
  have HY : Hid (w5.heap[b2]? = some (.cells (nodeC 0 u0 (.slice none 0 0)) 27)) := Lib.hid (by
    rw [H5.out.old (Array.getElem?_eq_some_iff.1 HB2.out).1 hne, HB2.out])
  go_wp2_with (refine wpList_store_row rfl 27 (.tmp 2) (.tmp 23) rfl b2 (nodeC 2 u (.slice none 0 0)) rfl rfl 27 _ HY.out size27r rfl (nodeC_one _ _ _ _ _) ?_)
  exact bodyPost_ret (v := .agg (nodeC 2 u (.slice none 0 0))) (results_cell_row rfl _ _ b2 27 _ (0, 0) _ rfl (setRow_heap w5 b2 _ _ 27 (0, 0) HY.out) Tryd.underlying27 rfl size27r) rfl ⟨rfl, Gk.row (HU.out.trans H5.out) (by omega) hne⟩
set_option maxHeartbeats 4000000 in
theorem atom_B {rb n0 n1 n2 : Nat} {s : ByteArray} {w : World} (u : Nat → Int) (h0 : Gat rb s n0 w) (hP1 : PS rb ⟨#[40]⟩ s n0 false n1) (hA : AH rb ⟨#[91]⟩ s n1 true)
    (hR : Hid (∀ w, Gat rb s n1 w → Calls Tryd.prog 106 #[.pointer (some ⟨rb, 0, none⟩)] w fun e w' => e = .returned (vv u) ∧ Gk rb s n2 w w')) :
    Calls Tryd.prog 98 #[.pointer (some ⟨rb, 0, none⟩)] w fun e w' => e = .returned (.agg (nodeC 2 u (.slice none 0 0))) ∧ Gk rb s n2 w w' := by
  have HU := Lib.hid (Gk.up h0 ((Below.refl _ _).alloc (Nat.le_refl _) (.cells (nodeC 0 u0 (.slice none 0 0)) 27)))
  have HB2 := Lib.hid (heap_alloc_last w (.cells (nodeC 0 u0 (.slice none 0 0)) 27))
  have hne : w.heap.size ≠ rb := by have := h0.lt; omega
  have hz := zero27r
  clear h0
  go_enter Tryd.func98, Tryd.ntmps98
  go_wp2_with fail
  generalize hwA : w.alloc (.cells (nodeC 0 u0 (.slice none 0 0)) 27) = wA at *
  clear hwA
  generalize hb2 : w.heap.size = b2 at *
  refine (hP1.out _ HU.out.2).mono ?_
  rintro _ w1 ⟨rfl, hk⟩
  have H1 := Lib.hid ((Gk.refl HU.out.2).trans hk)
  clear hk
  go_wp2_with fail
  refine (hA.out _ H1.out.2).mono ?_
  rintro _ w2 ⟨rfl, hk⟩
  have H2 := Lib.hid (H1.out.trans hk)
  clear hk H1
  go_wp2_with fail
  refine (hR.out _ H2.out.2).mono ?_
  rintro _ w5 ⟨rfl, hk⟩
  have H5 := Lib.hid (H2.out.trans hk)
  clear hk H2
  have HY : Hid (w5.heap[b2]? = some (.cells (nodeC 0 u0 (.slice none 0 0)) 27)) := Lib.hid (by
    rw [H5.out.old (Array.getElem?_eq_some_iff.1 HB2.out).1 hne, HB2.out])
  go_wp2_with (refine wpList_store_row rfl 27 (.tmp 2) (.tmp 18) rfl b2 (nodeC 2 u (.slice none 0 0)) rfl rfl 27 _ HY.out size27r rfl (nodeC_one _ _ _ _ _) ?_)
  exact bodyPost_ret (v := .agg (nodeC 2 u (.slice none 0 0))) (results_cell_row rfl _ _ b2 27 _ (0, 0) _ rfl (setRow_heap w5 b2 _ _ 27 (0, 0) HY.out) Tryd.underlying27 rfl size27r) rfl ⟨rfl, Gk.row (HU.out.trans H5.out) (by omega) hne⟩
set_option maxHeartbeats 4000000 in
theorem atom_Be {rb n0 n1 n2 : Nat} {s : ByteArray} {w : World} (h0 : Gat rb s n0 w) (hP1 : PS rb ⟨#[40]⟩ s n0 false n1) (hA : AH rb ⟨#[91]⟩ s n1 true)
    (hR : Hid (∀ w, Gat rb s n1 w → Calls Tryd.prog 106 #[.pointer (some ⟨rb, 0, none⟩)] w fun e w' => e = boom ∧ Gk rb s n2 w w')) :
    Calls Tryd.prog 98 #[.pointer (some ⟨rb, 0, none⟩)] w fun e w' => e = boom ∧ Gk rb s n2 w w' := by
  have HU := Lib.hid (Gk.up h0 ((Below.refl _ _).alloc (Nat.le_refl _) (.cells (nodeC 0 u0 (.slice none 0 0)) 27)))
  have hz := zero27r
  clear h0
  go_enter Tryd.func98, Tryd.ntmps98
  go_wp2_with fail
  refine (hP1.out _ HU.out.2).mono ?_
  rintro _ w1 ⟨rfl, hk⟩
  have H1 := Lib.hid (HU.out.trans hk)
  clear hk
  go_wp2_with fail
  refine (hA.out _ H1.out.2).mono ?_
  rintro _ w2 ⟨rfl, hk⟩
  have H2 := Lib.hid (H1.out.trans hk)
  clear hk H1
  go_wp2_with fail
  refine (hR.out _ H2.out.2).mono ?_
  rintro _ w5 ⟨rfl, hk⟩
  have H5 := Lib.hid (H2.out.trans hk)
  clear hk H2
  unfold boom
  go_wp2
  exact ⟨rfl, rfl, H5.out⟩
set_option maxHeartbeats 4000000 in
theorem atom_De {rb n0 n1 n2 n3 : Nat} {s : ByteArray} {w : World} (h0 : Gat rb s n0 w) (hP1 : PS rb ⟨#[40]⟩ s n0 false n1) (hA : AH rb ⟨#[91]⟩ s n1 false) (hP2 : PS rb ⟨#[46]⟩ s n1 false n2)
    (hS : Hid (∀ w, Gat rb s n2 w → Calls Tryd.prog 107 #[.pointer (some ⟨rb, 0, none⟩)] w fun e w' => e = boom ∧ Gk rb s n3 w w')) :
    Calls Tryd.prog 98 #[.pointer (some ⟨rb, 0, none⟩)] w fun e w' => e = boom ∧ Gk rb s n3 w w' := by
  have HU := Lib.hid (Gk.up h0 ((Below.refl _ _).alloc (Nat.le_refl _) (.cells (nodeC 0 u0 (.slice none 0 0)) 27)))
  have hz := zero27r
  clear h0
  go_enter Tryd.func98, Tryd.ntmps98
  go_wp2_with fail
  refine (hP1.out _ HU.out.2).mono ?_
  rintro _ w1 ⟨rfl, hk⟩
  have H1 := Lib.hid (HU.out.trans hk)
  clear hk
  go_wp2_with fail
  refine (hA.out _ H1.out.2).mono ?_
  rintro _ w2 ⟨rfl, hk⟩
  have H2 := Lib.hid (H1.out.trans hk)
  clear hk H1
  go_wp2_with fail
  refine (hP2.out _ H2.out.2).mono ?_
  rintro _ w3 ⟨rfl, hk⟩
  have H3 := Lib.hid (H2.out.trans hk)
  clear hk H2
  go_wp2_with fail
  refine (hS.out _ H3.out.2).mono ?_
  rintro _ w5 ⟨rfl, hk⟩
  have H5 := Lib.hid (H3.out.trans hk)
  clear hk H3
  unfold boom
  go_wp2
  exact ⟨rfl, rfl, H5.out⟩
/-- What stands in brackets, by its contract. -/
def CHO (rb : Nat) (s : ByteArray) (q : List UInt8) (r : Except (List UInt8) (RT × List UInt8)) : Prop := Hid (∀ w, GA rb s q w → Calls Tryd.prog 47 #[.pointer (some ⟨rb, 0, none⟩)] w (TreeP rb s w r))
set_option maxHeartbeats 4000000 in
theorem atom_Ae {rb n0 : Nat} {s : ByteArray} {w : World} (q t : List UInt8) (hq : Suf s q) (h0 : Gat rb s n0 w) (hP1 : PS rb ⟨#[40]⟩ s n0 true (s.size - q.length)) (hC : CHO rb s q (.error t)) :
    Calls Tryd.prog 98 #[.pointer (some ⟨rb, 0, none⟩)] w fun e w' => e = boom ∧ GK rb s t w w' := by
  have HU := Lib.hid (Gk.up h0 ((Below.refl _ _).alloc (Nat.le_refl _) (.cells (nodeC 0 u0 (.slice none 0 0)) 27)))
  have hz := zero27r
  clear h0
  go_enter Tryd.func98, Tryd.ntmps98
  go_wp2_with fail
  refine (hP1.out _ HU.out.2).mono ?_
  rintro _ w1 ⟨rfl, hk⟩
  have H1 := Lib.hid (HU.out.trans hk)
  clear hk
  go_wp2_with fail
  refine (hC.out _ ⟨hq, H1.out.2⟩).mono ?_
  rintro _ w5 ⟨rfl, hk⟩
  have H5 : Hid (GK rb s t w w5) := Lib.hid (.of hk.2.1 (H1.out.trans hk.gk))
  clear hk H1
  unfold boom
  go_wp2
  exact ⟨rfl, rfl, H5.out⟩
set_option maxHeartbeats 4000000 in
theorem atom_An {rb n0 n3 : Nat} {s : ByteArray} {w : World} (q r : List UInt8) (t : RT) (hq : Suf s q) (h0 : Gat rb s n0 w) (hP1 : PS rb ⟨#[40]⟩ s n0 true (s.size - q.length)) (hC : CHO rb s q (.ok (t, r))) (hN : NEXT rb s (s.size - r.length) boom n3) :
    Calls Tryd.prog 98 #[.pointer (some ⟨rb, 0, none⟩)] w fun e w' => e = boom ∧ Gk rb s n3 w w' := by
  have HU := Lib.hid (Gk.up h0 ((Below.refl _ _).alloc (Nat.le_refl _) (.cells (nodeC 0 u0 (.slice none 0 0)) 27)))
  have hz := zero27r
  clear h0
  go_enter Tryd.func98, Tryd.ntmps98
  go_wp2_with fail
  refine (hP1.out _ HU.out.2).mono ?_
  rintro _ w1 ⟨rfl, hk⟩
  have H1 := Lib.hid (HU.out.trans hk)
  clear hk
  go_wp2_with fail
  refine (hC.out _ ⟨hq, H1.out.2⟩).mono ?_
  rintro _ w2 ⟨⟨v, rfl, hRV⟩, hk⟩
  obtain ⟨k, u, p, n, c, rfl⟩ := hRV.form
  have H2 := Lib.hid (H1.out.trans hk.gk)
  clear hk hRV H1
  go_wp2_with (refine wpList_store_row rfl 27 (.tmp 3) (.tmp 9) rfl w2.heap.size (nodeC k u (.slice p n c)) rfl rfl 27 _ (heap_alloc_last w2 _) size27r rfl (nodeC_one _ _ _ _ _) ?_)
  rw [World.setRow_alloc_new]
  have H3 := Lib.hid (H2.out.trans (Gk.up H2.out.2 ((Below.refl _ _).alloc (Nat.le_refl _) (.cells (nodeC k u (.slice p n c)) 27))))
  clear H2
  go_wp2_with fail
  refine (hN.out _ H3.out.2).mono ?_
  rintro _ w5 ⟨rfl, hk⟩
  have H5 := Lib.hid (H3.out.trans hk)
  clear hk H3
  unfold boom
  go_wp2
  exact ⟨rfl, rfl, H5.out⟩
set_option maxHeartbeats 4000000 in
theorem atom_A {rb n0 n3 : Nat} {s : ByteArray} {w : World} (b : UInt8) (q r : List UInt8) (t : RT) (hq : Suf s q) (h0 : Gat rb s n0 w) (hP1 : PS rb ⟨#[40]⟩ s n0 true (s.size - q.length)) (hC : CHO rb s q (.ok (t, r))) (hN : NEXT rb s (s.size - r.length) (.returned (.int .u8 b.toNat)) n3) :
    Calls Tryd.prog 98 #[.pointer (some ⟨rb, 0, none⟩)] w fun e w' => (∃ v, e = .returned v ∧ RV (fun b => w.heap.size ≤ b ∧ b < w'.heap.size) w' t v) ∧ Gk rb s n3 w w' := by
  have HU := Lib.hid (Gk.up h0 ((Below.refl _ _).alloc (Nat.le_refl _) (.cells (nodeC 0 u0 (.slice none 0 0)) 27)))
  have HB2 := Lib.hid (heap_alloc_last w (.cells (nodeC 0 u0 (.slice none 0 0)) 27))
  have hsz : (w.alloc (.cells (nodeC 0 u0 (.slice none 0 0)) 27)).heap.size = w.heap.size + 1 := by simp
  have hrb := h0.lt
  have hne : w.heap.size ≠ rb := by omega
  have hz := zero27r
  clear h0
  go_enter Tryd.func98, Tryd.ntmps98
  go_wp2_with fail
  generalize hwA : w.alloc (.cells (nodeC 0 u0 (.slice none 0 0)) 27) = wA at *
  clear hwA
  generalize hb2 : w.heap.size = b2 at *
  refine (hP1.out _ HU.out.2).mono ?_
  rintro _ w1 ⟨rfl, hk⟩
  have H1 := Lib.hid ((Gk.refl HU.out.2).trans hk)
  clear hk
  go_wp2_with fail
  refine (hC.out _ ⟨hq, H1.out.2⟩).mono ?_
  rintro _ w2 ⟨⟨v, rfl, hRV⟩, hk⟩
  obtain ⟨k, u, p, n, c, rfl⟩ := hRV.form
  have HK12 := Lib.hid hk.gk
  have HRV := Lib.hid hRV
  clear hk hRV
  go_wp2_with (refine wpList_store_row rfl 27 (.tmp 3) (.tmp 9) rfl w2.heap.size (nodeC k u (.slice p n c)) rfl rfl 27 _ (heap_alloc_last w2 _) size27r rfl (nodeC_one _ _ _ _ _) ?_)
  rw [World.setRow_alloc_new]
  have H3 := Lib.hid (Gk.up HK12.out.2 ((Below.refl _ _).alloc (Nat.le_refl _) (.cells (nodeC k u (.slice p n c)) 27)))
  have HB3 := Lib.hid (heap_alloc_last w2 (.cells (nodeC k u (.slice p n c)) 27))
  have hsz3 : (w2.alloc (.cells (nodeC k u (.slice p n c)) 27)).heap.size = w2.heap.size + 1 := by simp
  generalize hw3 : w2.alloc (.cells (nodeC k u (.slice p n c)) 27) = w3 at *
  clear hw3
  generalize hb3 : w2.heap.size = b3 at *
  go_wp2_with fail
  refine (hN.out _ H3.out.2).mono ?_
  rintro _ w5 ⟨rfl, hk⟩
  have H5 := Lib.hid hk
  clear hk
  have s1 := H1.out.1.size
  have s2 := HK12.out.1.size
  have s5 := H5.out.1.size
  have HX : Hid (w5.heap[b3]? = some (.cells (nodeC k u (.slice p n c)) 27)) := Lib.hid (by
    rw [H5.out.old (by omega) (by omega), HB3.out])
  have HY : Hid (w5.heap[b2]? = some (.cells (nodeC 0 u0 (.slice none 0 0)) 27)) := Lib.hid (by
    rw [H5.out.old (by omega) hne, H3.out.old (by omega) hne, HK12.out.old (by omega) hne, H1.out.old (by omega) hne, HB2.out])
  have HE : Hid (∀ x, w1.heap.size ≤ x ∧ x < w2.heap.size → w5.heap[x]? = w2.heap[x]?) := Lib.hid fun x hx => by
    rw [H5.out.old (by omega) (by omega), H3.out.old (by omega) (by omega)]
  have HT := Lib.hid (((HU.out.trans H1.out).trans HK12.out).trans (H3.out.trans H5.out))
  go_wp2_with (first | (refine wpList_load_row rfl 27 (.tmp 3) rfl b3 rfl 27 _ (0, 0) _ HX.out Tryd.underlying27 rfl size27r ?_) | (refine wpList_store_row rfl 27 (.tmp 2) (.tmp 12) rfl b2 (nodeC k u (.slice p n c)) rfl rfl 27 _ HY.out size27r rfl (nodeC_one _ _ _ _ _) ?_))
  refine bodyPost_ret (v := .agg (nodeC k u (.slice p n c))) (results_cell_row rfl _ _ b2 27 _ (0, 0) _ rfl (setRow_heap w5 b2 _ _ 27 (0, 0) HY.out) Tryd.underlying27 rfl size27r) rfl ⟨⟨_, rfl, ?_⟩, Gk.row HT.out (by omega) hne⟩
  refine HRV.out.mono (fun x hx => ?_) (fun x hx _ => ?_)
  · have h1 : (w5.setRow b2 (nodeC k u (.slice p n c))).heap.size = w5.heap.size := by simp
    rw [h1]; omega
  · rw [setRow_other w5 b2 x _ (by omega)]
    exact HE.out x (by omega)
end Go.Proofs.YtmjojahkbjlcdaaDoor
end
