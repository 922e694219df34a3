/- Package regs: the reader's small steps: what comes next. -/
import Derived.Test.YtmjojahkbjlcdaaDoorProg
import Derived.Test.YtmjojahkbjlcdaaDoorY3
import Derived.Test.YtmjojahkbjlcdaaDoorY4
import Derived.WalkKit
import Derived.WalkLawsBesides
import Derived.WalkSpells
import Derived.Outline
import Derived.Lib.Walk
import Derived.Lib.Hide
import Derived.RegionTactic
import Derived.LoopTactic
import Derived.Below
import Derived.IntWalk
import Derived.Deep.QuietTactic
import Derived.BigQuiet
import Derived.Test.YtmjojahkbjlcdaaDoorGM
import Derived.Test.YtmjojahkbjlcdaaDoorG28
import Derived.Test.YtmjojahkbjlcdaaDoorY23
namespace Go.Proofs.YtmjojahkbjlcdaaDoor
set_option linter.unusedSimpArgs false
set_option linter.unusedVariables false
set_option maxRecDepth 100000
open Go.RowKit

def kindT : RT → Int | .mk k _ _ => k
mutual
/-- A pattern's text. -/
def wrT : RT → List UInt8
  | .mk k u ps => if k = 0 then [91, 93] else if k = 1 then [] else if k = 2 then wset (fOf u) else if k = 3 then wrL 3 [] true ps else if k = 4 then wrL 4 [124] true ps else wrL k [] true ps ++ (if k = 5 then [42] else if k = 6 then [43] else [63])
def wrL (k : Int) (bt : List UInt8) : Bool → List RT → List UInt8
  | _, [] => []
  | fs, t :: ts => (bif fs then [] else bt) ++ ((bif encB k (kindT t) then [40] ++ wrT t ++ [41] else wrT t) ++ wrL k bt false ts)
end
theorem wrL_drop {k : Int} {bt : List UInt8} {fs : Bool} {ts : List RT} {j : Nat} (h : j < ts.length) : wrL k bt fs (ts.drop j) = (bif fs then [] else bt) ++ ((bif encB k (kindT ts[j]) then [40] ++ wrT ts[j] ++ [41] else wrT ts[j]) ++ wrL k bt false (ts.drop (j + 1))) := by
  rw [List.drop_eq_getElem_cons h, wrL]
/-- What write does with a part. -/
def WT (B b : Nat) (D : Nat → Prop) (t : RT) : Prop := Hid (∀ m v w, Bd B b m w → B ≤ w.heap.size → m.length + (wrT t).length < 300000 → RV D w t v → Calls Tryd.prog 39 #[.pointer (some ⟨b, 0, none⟩), v] w fun e w' => e = .returned (.tuple #[]) ∧ Wk B b (m ++ wrT t) w w')
/-- In a round of the loop: the builder, the two boxes, the part. -/
def PG (B b : Nat) (D : Nat → Prop) (w : World) (rb pb : Nat) (ro po : Array Value) (t : RT) (pv : Value) (l : List UInt8) (x : World) : Prop := Wk B b l w x ∧ x.heap[rb]? = some (.cells ro 27 (0, 0)) ∧ x.heap[pb]? = some (.cells po 27 (0, 0)) ∧ RV D x t pv
theorem PG.step {B b : Nat} {D : Nat → Prop} {w x y : World} {rb pb : Nat} {ro po : Array Value} {t : RT} {pv : Value} {l l' : List UInt8} (hDB : ∀ b, D b → b < B) (hrb : rb ≠ b) (hpb : pb ≠ b) (h : PG B b D w rb pb ro po t pv l x) (k : Wk B b l' x y) : PG B b D w rb pb ro po t pv l' y :=
  ⟨h.1.trans k, k.2.2 rb _ h.2.1 (by simp [hrb]) (by intro c fz e; cases e), k.2.2 pb _ h.2.2.1 (by simp [hpb]) (by intro c fz e; cases e), RV.mono (fun b h => h) (fun z hz hlt => k.2.1.block z (hDB z hz)) h.2.2.2⟩
theorem PG.r {B b : Nat} {D : Nat → Prop} {w x : World} {rb pb : Nat} {ro po : Array Value} {t : RT} {pv : Value} {l : List UInt8} (h : PG B b D w rb pb ro po t pv l x) (i : Nat) : x.cell? ⟨rb, i, none⟩ = ro[i]? := cell_of_row x rb i _ 27 (0, 0) h.2.1
theorem PG.p {B b : Nat} {D : Nat → Prop} {w x : World} {rb pb : Nat} {ro po : Array Value} {t : RT} {pv : Value} {l : List UInt8} (h : PG B b D w rb pb ro po t pv l x) (i : Nat) : x.cell? ⟨pb, i, none⟩ = po[i]? := cell_of_row x pb i _ 27 (0, 0) h.2.2.1
theorem PG.B {B b : Nat} {D : Nat → Prop} {w x : World} {rb pb : Nat} {ro po : Array Value} {t : RT} {pv : Value} {l : List UInt8} (h : PG B b D w rb pb ro po t pv l x) : B ≤ x.heap.size := h.1.B
theorem RV.kind {D : Nat → Prop} {w : World} {t : RT} {k : Int} {u : Nat → Int} {s : Value} (h : RV D w t (.agg #[.int .i64 k, .int .u64 (u 0), .int .u64 (u 1), .int .u64 (u 2), .int .u64 (u 3), s])) : kindT t = k := by
  cases t with
  | mk k0 u0 ps0 =>
    obtain ⟨p, c, e, _⟩ := h.parts
    simp at e
    exact e.1.symm
set_option maxHeartbeats 4000000 in
theorem wparts_walk {D : Nat → Prop} {B b : Nat} {m bt : List UInt8} {k : Int} {u : Nat → Int} {ps : List RT} {v : Value} {w : World} (hbd : Bd B b m w) (hDB : ∀ b, D b → b < B) (hB : B ≤ w.heap.size) (hlen : m.length + (wrL k bt true ps).length < 300000) (hl : ps.length ≤ 9223372036854775806) (h : RV D w (.mk k u ps) v)
    (hI : ∀ i (hi : i < ps.length), WT B b D ps[i]) :
    Calls Tryd.prog 52 #[.pointer (some ⟨b, 0, none⟩), v, .string (bs bt)] w fun e w' => e = .returned (.tuple #[]) ∧ Wk B b (m ++ wrL k bt true ps) w w' := by
  obtain ⟨p, c, rfl, hp⟩ := h.parts
  have HP := Lib.hid hp
  have hz := zero27l
  clear h hp
  have S0 := (Sb.start w).alloc (.cells #[.int .i64 k, .int .u64 (u 0), .int .u64 (u 1), .int .u64 (u 2), .int .u64 (u 3), .slice p ps.length c] 27)
  have HWk := Lib.hid ((Wk.refl hbd).up hB S0.1)
  have HR0 := Lib.hid S0.heap
  obtain ⟨R, hR⟩ : ∃ R, m ++ wrL k bt true ps = R := ⟨_, rfl⟩
  rw [hR]
  have HR := Lib.hid hR
  have hRl : R.length < 300000 := by rw [← hR]; simpa using hlen
  have hbw := hbd.lt
  have HI := Lib.hid hI
  clear hR hI hlen hbd S0
  go_enter Tryd.func52, Tryd.ntmps52
  go_wp2
  go_loopw [11] (fun i wr => ∃ (j : Nat) (l : List UInt8), j ≤ ps.length ∧ i = .int .i64 j ∧ Hid (l ++ wrL k bt (decide (j = 0)) (ps.drop j) = R) ∧ Hid (Wk B b l w wr) ∧ Hid (wr.heap[w.heap.size]? = some (.cells #[.int .i64 k, .int .u64 (u 0), .int .u64 (u 1), .int .u64 (u 2), .int .u64 (u 3), .slice p ps.length c] 27))) (fun i _ => ps.length - (intOf i).toNat)
  case atStart => exact ⟨0, m, by omega, rfl, HR, HWk, HR0⟩
  case round =>
    obtain ⟨j, l, hj, rfl, HC, HW, HX⟩ := hrel
    clear HWk HR0 HR
    by_cases hlt : j < ps.length
    · have hne : ps ≠ [] := by intro e; subst e; simp at hlt
      obtain ⟨b', o, rfl, hDb, hx⟩ := HP.out hne
      obtain ⟨k', u', p', n', c', hv, hcell⟩ := hx j hlt
      have hkk := hv.kind
      have hbB := hDB b' hDb
      have hbel := HW.out.2.1
      have hwz := HW.out.size
      have cc : ∀ i y, (nodeC k' u' (.slice p' n' c'))[i]? = some y → wr.cell? ⟨b', o + j * 6 + i, none⟩ = some y := fun i y hy => by
        rw [hbel.cell (p := ⟨b', o + j * 6 + i, none⟩) hbB, ← hcell i y hy, show o + j * 6 + i = o + (6 * j + i) by omega]
      have d0 : wr.cell? ⟨b', o + j * 6, none⟩ = some (.int .i64 k') := cc 0 _ rfl
      have d1 : wr.cell? ⟨b', o + j * 6 + 1, none⟩ = some (.int .u64 (u' 0)) := cc 1 _ rfl
      have d2 : wr.cell? ⟨b', o + j * 6 + 2, none⟩ = some (.int .u64 (u' 1)) := cc 2 _ rfl
      have d3 : wr.cell? ⟨b', o + j * 6 + 3, none⟩ = some (.int .u64 (u' 2)) := cc 3 _ rfl
      have d4 : wr.cell? ⟨b', o + j * 6 + 4, none⟩ = some (.int .u64 (u' 3)) := cc 4 _ rfl
      have d5 : wr.cell? ⟨b', o + j * 6 + 5, none⟩ = some (.slice p' n' c') := cc 5 _ rfl
      have r0 : wr.cell? ⟨w.heap.size, 0, none⟩ = some (.int .i64 k) := cell_of_row wr w.heap.size 0 _ 27 (0, 0) HX.out
      have hab : Below wr.heap.size wr (wr.alloc (.cells #[.int .i64 k', .int .u64 (u' 0), .int .u64 (u' 1), .int .u64 (u' 2), .int .u64 (u' 3), .slice p' n' c'] 27)) := (Below.refl _ _).alloc (Nat.le_refl _) (.cells #[.int .i64 k', .int .u64 (u' 0), .int .u64 (u' 1), .int .u64 (u' 2), .int .u64 (u' 3), .slice p' n' c'] 27)
      have HG : Hid (PG B b D w w.heap.size wr.heap.size #[.int .i64 k, .int .u64 (u 0), .int .u64 (u 1), .int .u64 (u 2), .int .u64 (u 3), .slice (some ⟨b', o, none⟩) ps.length c] #[.int .i64 k', .int .u64 (u' 0), .int .u64 (u' 1), .int .u64 (u' 2), .int .u64 (u' 3), .slice p' n' c'] ps[j] (.agg #[.int .i64 k', .int .u64 (u' 0), .int .u64 (u' 1), .int .u64 (u' 2), .int .u64 (u' 3), .slice p' n' c']) l (wr.alloc (.cells #[.int .i64 k', .int .u64 (u' 0), .int .u64 (u' 1), .int .u64 (u' 2), .int .u64 (u' 3), .slice p' n' c'] 27))) := Lib.hid ⟨HW.out.up hB hab, (hab.block _ (Array.getElem?_eq_some_iff.1 HX.out).1).trans HX.out, heap_alloc_last wr _, RV.mono (fun b h => h) (fun z hz hlt => (hab.block z (by have := hDB z hz; omega)).trans (hbel.block z (hDB z hz))) hv⟩
      have HS : Hid (∀ x y l l', PG B b D w w.heap.size wr.heap.size #[.int .i64 k, .int .u64 (u 0), .int .u64 (u 1), .int .u64 (u 2), .int .u64 (u 3), .slice (some ⟨b', o, none⟩) ps.length c] #[.int .i64 k', .int .u64 (u' 0), .int .u64 (u' 1), .int .u64 (u' 2), .int .u64 (u' 3), .slice p' n' c'] ps[j] (.agg #[.int .i64 k', .int .u64 (u' 0), .int .u64 (u' 1), .int .u64 (u' 2), .int .u64 (u' 3), .slice p' n' c']) l x → Wk B b l' x y → PG B b D w w.heap.size wr.heap.size #[.int .i64 k, .int .u64 (u 0), .int .u64 (u 1), .int .u64 (u 2), .int .u64 (u 3), .slice (some ⟨b', o, none⟩) ps.length c] #[.int .i64 k', .int .u64 (u' 0), .int .u64 (u' 1), .int .u64 (u' 2), .int .u64 (u' 3), .slice p' n' c'] ps[j] (.agg #[.int .i64 k', .int .u64 (u' 0), .int .u64 (u' 1), .int .u64 (u' 2), .int .u64 (u' 3), .slice p' n' c']) l' y) := Lib.hid fun x y l l' g q => PG.step hDB (by omega) (by omega) g q
      have hlt' : (j : Int) < (ps.length : Int) := by omega
      have HC2 := Lib.hid ((congrArg (l ++ ·) (wrL_drop (k := k) (bt := bt) (fs := decide (j = 0)) hlt)).symm.trans HC.out)
      have HIj := HI.out j hlt
      have henc := Lib.hid fun w => enclosed_any k k' w
      rw [hkk] at HC2
      clear hcell hv cc hx HC hab hbel hkk
      by_cases hj0 : j = 0
      · have hgt : ¬ (0 : Int) < (j : Int) := by omega
        rw [show decide (j = 0) = true from by simp [hj0]] at HC2
        clear hj0
        have HL0 := Lib.hid (show (l ++ (wrT ps[j] ++ [40, 41])).length < 300002 by have := congrArg List.length HC2.out; rcases hE : encB k k' with _ | _ <;> rw [hE] at this <;> simp at this ⊢ <;> omega)
        have g0 : (wr.alloc (.cells #[.int .i64 k', .int .u64 (u' 0), .int .u64 (u' 1), .int .u64 (u' 2), .int .u64 (u' 3), .slice p' n' c'] 27)).cell? ⟨w.heap.size, 0, none⟩ = some (.int .i64 k) := HG.out.r 0
        have p0 : (wr.alloc (.cells #[.int .i64 k', .int .u64 (u' 0), .int .u64 (u' 1), .int .u64 (u' 2), .int .u64 (u' 3), .slice p' n' c'] 27)).cell? ⟨wr.heap.size, 0, none⟩ = some (.int .i64 k') := HG.out.p 0
        have p1 : (wr.alloc (.cells #[.int .i64 k', .int .u64 (u' 0), .int .u64 (u' 1), .int .u64 (u' 2), .int .u64 (u' 3), .slice p' n' c'] 27)).cell? ⟨wr.heap.size, 1, none⟩ = some (.int .u64 (u' 0)) := HG.out.p 1
        have p2 : (wr.alloc (.cells #[.int .i64 k', .int .u64 (u' 0), .int .u64 (u' 1), .int .u64 (u' 2), .int .u64 (u' 3), .slice p' n' c'] 27)).cell? ⟨wr.heap.size, 2, none⟩ = some (.int .u64 (u' 1)) := HG.out.p 2
        have p3 : (wr.alloc (.cells #[.int .i64 k', .int .u64 (u' 0), .int .u64 (u' 1), .int .u64 (u' 2), .int .u64 (u' 3), .slice p' n' c'] 27)).cell? ⟨wr.heap.size, 3, none⟩ = some (.int .u64 (u' 2)) := HG.out.p 3
        have p4 : (wr.alloc (.cells #[.int .i64 k', .int .u64 (u' 0), .int .u64 (u' 1), .int .u64 (u' 2), .int .u64 (u' 3), .slice p' n' c'] 27)).cell? ⟨wr.heap.size, 4, none⟩ = some (.int .u64 (u' 3)) := HG.out.p 4
        have p5 : (wr.alloc (.cells #[.int .i64 k', .int .u64 (u' 0), .int .u64 (u' 1), .int .u64 (u' 2), .int .u64 (u' 3), .slice p' n' c'] 27)).cell? ⟨wr.heap.size, 5, none⟩ = some (.slice p' n' c') := HG.out.p 5
        go_wp2_with fail
        refine (henc.out _).mono ?_
        rintro _ _ ⟨rfl, rfl⟩
        cases hE : encB k k' with
        | false =>
          rw [hE] at HC2
          clear hE
          go_wp2_with fail
          refine (HIj.out (l) _ _ HG.out.1.1 HG.out.B (by have := congrArg List.length HC2.out; simp at this ⊢; omega) HG.out.2.2.2).mono ?_
          rintro _ x1 ⟨rfl, hk⟩
          have HG1 := Lib.hid (HS.out _ _ _ _ HG.out hk)
          clear hk
          clear g0 p0 p1 p2 p3 p4 p5
          go_wp2_with fail
          go_roundw
          case rel => exact ⟨j + 1, l ++ wrT ps[j], by omega, by go_num, Lib.hid (by have := HC2.out; simpa [List.append_assoc] using this), Lib.hid HG1.out.1, Lib.hid HG1.out.2.1⟩
          case measure => simp [intOf]; omega
        | true =>
          rw [hE] at HC2
          clear hE
          have HB := wb_hid B b (l) (wr.alloc (.cells #[.int .i64 k', .int .u64 (u' 0), .int .u64 (u' 1), .int .u64 (u' 2), .int .u64 (u' 3), .slice p' n' c'] 27)) 40 (by have := HL0.out; simp only [List.length_append] at this ⊢; omega) HG.out.B
          go_wp2_with fail
          refine (HB.out _ (Wk.refl HG.out.1.1)).mono ?_
          rintro _ x1 ⟨rfl, hk⟩
          have HG1 := Lib.hid (HS.out _ _ _ _ HG.out hk)
          clear hk HB
          clear g0 p0 p1 p2 p3 p4 p5
          have g0 : x1.cell? ⟨w.heap.size, 0, none⟩ = some (.int .i64 k) := HG1.out.r 0
          have p0 : x1.cell? ⟨wr.heap.size, 0, none⟩ = some (.int .i64 k') := HG1.out.p 0
          have p1 : x1.cell? ⟨wr.heap.size, 1, none⟩ = some (.int .u64 (u' 0)) := HG1.out.p 1
          have p2 : x1.cell? ⟨wr.heap.size, 2, none⟩ = some (.int .u64 (u' 1)) := HG1.out.p 2
          have p3 : x1.cell? ⟨wr.heap.size, 3, none⟩ = some (.int .u64 (u' 2)) := HG1.out.p 3
          have p4 : x1.cell? ⟨wr.heap.size, 4, none⟩ = some (.int .u64 (u' 3)) := HG1.out.p 4
          have p5 : x1.cell? ⟨wr.heap.size, 5, none⟩ = some (.slice p' n' c') := HG1.out.p 5
          go_wp2_with fail
          refine (HIj.out (l ++ [40]) _ _ HG1.out.1.1 HG1.out.B (by have := congrArg List.length HC2.out; simp at this ⊢; omega) HG1.out.2.2.2).mono ?_
          rintro _ x2 ⟨rfl, hk⟩
          have HG2 := Lib.hid (HS.out _ _ _ _ HG1.out hk)
          clear hk HG1
          clear g0 p0 p1 p2 p3 p4 p5
          have HB := wb_hid B b ((l ++ [40]) ++ wrT ps[j]) x2 41 (by have := HL0.out; simp only [List.length_append] at this ⊢; simp at this ⊢; omega) HG2.out.B
          go_wp2_with fail
          refine (HB.out _ (Wk.refl HG2.out.1.1)).mono ?_
          rintro _ x3 ⟨rfl, hk⟩
          have HG3 := Lib.hid (HS.out _ _ _ _ HG2.out hk)
          clear hk HB HG2
          go_wp2_with fail
          go_roundw
          case rel => exact ⟨j + 1, (((l ++ [40]) ++ wrT ps[j]) ++ [41]), by omega, by go_num, Lib.hid (by have := HC2.out; simpa [List.append_assoc] using this), Lib.hid HG3.out.1, Lib.hid HG3.out.2.1⟩
          case measure => simp [intOf]; omega
      · have hgt : (0 : Int) < (j : Int) := by omega
        rw [show decide (j = 0) = false from by simp [hj0]] at HC2
        clear hj0
        have HL1 := Lib.hid (show ((l ++ bt) ++ (wrT ps[j] ++ [40, 41])).length < 300002 by have := congrArg List.length HC2.out; rcases hE : encB k k' with _ | _ <;> rw [hE] at this <;> simp at this ⊢ <;> omega)
        have HB : Hid (∀ w, Bd B b l w → B ≤ w.heap.size → Calls Tryd.prog 50 #[.pointer (some ⟨b, 0, none⟩), .string (bs bt)] w fun e w' => e = .returned (.tuple #[.int .i64 (bs bt).size, .nilIface]) ∧ Wk B b (l ++ bt) w w') := Lib.hid fun w h h' => Wk.str (Wk.refl h) bt (by have := HL1.out; simp only [List.length_append] at this; omega) h'
        go_wp2_with fail
        refine (HB.out _ HG.out.1.1 HG.out.B).mono ?_
        rintro _ x0 ⟨rfl, hk⟩
        have HG0 := Lib.hid (HS.out _ _ _ _ HG.out hk)
        clear hk HB HG
        have g0 : x0.cell? ⟨w.heap.size, 0, none⟩ = some (.int .i64 k) := HG0.out.r 0
        have p0 : x0.cell? ⟨wr.heap.size, 0, none⟩ = some (.int .i64 k') := HG0.out.p 0
        have p1 : x0.cell? ⟨wr.heap.size, 1, none⟩ = some (.int .u64 (u' 0)) := HG0.out.p 1
        have p2 : x0.cell? ⟨wr.heap.size, 2, none⟩ = some (.int .u64 (u' 1)) := HG0.out.p 2
        have p3 : x0.cell? ⟨wr.heap.size, 3, none⟩ = some (.int .u64 (u' 2)) := HG0.out.p 3
        have p4 : x0.cell? ⟨wr.heap.size, 4, none⟩ = some (.int .u64 (u' 3)) := HG0.out.p 4
        have p5 : x0.cell? ⟨wr.heap.size, 5, none⟩ = some (.slice p' n' c') := HG0.out.p 5
        go_wp2_with fail
        refine (henc.out _).mono ?_
        rintro _ _ ⟨rfl, rfl⟩
        cases hE : encB k k' with
        | false =>
          rw [hE] at HC2
          clear hE
          go_wp2_with fail
          refine (HIj.out ((l ++ bt)) _ _ HG0.out.1.1 HG0.out.B (by have := congrArg List.length HC2.out; simp at this ⊢; omega) HG0.out.2.2.2).mono ?_
          rintro _ x1 ⟨rfl, hk⟩
          have HG1 := Lib.hid (HS.out _ _ _ _ HG0.out hk)
          clear hk
          clear g0 p0 p1 p2 p3 p4 p5
          go_wp2_with fail
          go_roundw
          case rel => exact ⟨j + 1, (l ++ bt) ++ wrT ps[j], by omega, by go_num, Lib.hid (by have := HC2.out; simpa [List.append_assoc] using this), Lib.hid HG1.out.1, Lib.hid HG1.out.2.1⟩
          case measure => simp [intOf]; omega
        | true =>
          rw [hE] at HC2
          clear hE
          have HB := wb_hid B b ((l ++ bt)) x0 40 (by have := HL1.out; simp only [List.length_append] at this ⊢; omega) HG0.out.B
          go_wp2_with fail
          refine (HB.out _ (Wk.refl HG0.out.1.1)).mono ?_
          rintro _ x1 ⟨rfl, hk⟩
          have HG1 := Lib.hid (HS.out _ _ _ _ HG0.out hk)
          clear hk HB
          clear g0 p0 p1 p2 p3 p4 p5
          have g0 : x1.cell? ⟨w.heap.size, 0, none⟩ = some (.int .i64 k) := HG1.out.r 0
          have p0 : x1.cell? ⟨wr.heap.size, 0, none⟩ = some (.int .i64 k') := HG1.out.p 0
          have p1 : x1.cell? ⟨wr.heap.size, 1, none⟩ = some (.int .u64 (u' 0)) := HG1.out.p 1
          have p2 : x1.cell? ⟨wr.heap.size, 2, none⟩ = some (.int .u64 (u' 1)) := HG1.out.p 2
          have p3 : x1.cell? ⟨wr.heap.size, 3, none⟩ = some (.int .u64 (u' 2)) := HG1.out.p 3
          have p4 : x1.cell? ⟨wr.heap.size, 4, none⟩ = some (.int .u64 (u' 3)) := HG1.out.p 4
          have p5 : x1.cell? ⟨wr.heap.size, 5, none⟩ = some (.slice p' n' c') := HG1.out.p 5
          go_wp2_with fail
          refine (HIj.out ((l ++ bt) ++ [40]) _ _ HG1.out.1.1 HG1.out.B (by have := congrArg List.length HC2.out; simp at this ⊢; omega) HG1.out.2.2.2).mono ?_
          rintro _ x2 ⟨rfl, hk⟩
          have HG2 := Lib.hid (HS.out _ _ _ _ HG1.out hk)
          clear hk HG1
          clear g0 p0 p1 p2 p3 p4 p5
          have HB := wb_hid B b (((l ++ bt) ++ [40]) ++ wrT ps[j]) x2 41 (by have := HL1.out; simp only [List.length_append] at this ⊢; simp at this ⊢; omega) HG2.out.B
          go_wp2_with fail
          refine (HB.out _ (Wk.refl HG2.out.1.1)).mono ?_
          rintro _ x3 ⟨rfl, hk⟩
          have HG3 := Lib.hid (HS.out _ _ _ _ HG2.out hk)
          clear hk HB HG2
          go_wp2_with fail
          go_roundw
          case rel => exact ⟨j + 1, ((((l ++ bt) ++ [40]) ++ wrT ps[j]) ++ [41]), by omega, by go_num, Lib.hid (by have := HC2.out; simpa [List.append_assoc] using this), Lib.hid HG3.out.1, Lib.hid HG3.out.2.1⟩
          case measure => simp [intOf]; omega
    · obtain rfl : j = ps.length := by omega
      have hlt' : ¬ ((ps.length : Int) < (ps.length : Int)) := by omega
      have hr : l = R := by rw [← HC.out, List.drop_length, wrL, List.append_nil]
      subst hr
      go_wp2
      go_end0
      exact ⟨rfl, HW.out⟩
end Go.Proofs.YtmjojahkbjlcdaaDoor
