/- Texts of package regs, one behind the other. -/
import Derived.Test.YtemkppjdfjoipaaProg
import Derived.Test.YtemkppjdfjoipaaDh
import Derived.WalkKit
import Derived.BigFrame
import Derived.Stop.BytesEq
import Derived.WalkLawsBesides
import Derived.WalkSpells
import Derived.Outline
import Derived.Lib.Walk
import Derived.Lib.Hide
import Derived.Lib.Slices
import Derived.Lib.Strings
import Derived.RegionTactic
import Derived.LoopTactic
import Derived.Below
import Derived.IntWalk
import Derived.Deep.QuietTactic
import Derived.BigQuiet
import Derived.Deep.MidRow
import Derived.Maps.AppendAt
import Derived.Laws.Rows
import Derived.Laws.Tables
import Derived.Deep.WholeRow
import Derived.Deep.Cut
import Derived.Deep.CutRange
import Derived.Lib.SliceRun
import Derived.Laws.MakeOwn
import Derived.Deep.RegionLaw
import Derived.Deep.RegionLawGrows
import Derived.Deep.RegionHeld3
import Derived.RegionCalls
import Derived.Deep.RegionWith
import Derived.Deep.Light
import Derived.Laws.CopyOwn
import Derived.Laws.ResultCell
import Derived.Test.YtemkppjdfjoipaaU26
section
/- Packages dfa, mini, munch. -/
namespace Go.Proofs.Ytemkppjdfjoipaa
set_option linter.unusedSimpArgs false
set_option linter.unusedVariables false
set_option maxRecDepth 100000
open Go.RowKit
/- What lies in the blocks that a call has made. -/
def Sb (w0 w : World) (L : List (Nat × Obj)) : Prop := Below w0.heap.size w0 w ∧ ∀ c ∈ L, w0.heap.size ≤ c.1 ∧ w.heap[c.1]? = some c.2
variable {w0 w w' : World} {L M : List (Nat × Obj)}
theorem Sb.start (w : World) : Sb w w [] := ⟨Below.refl _ _, by simp⟩
theorem Sb.up (h : Sb w0 w L) (hb : Below w.heap.size w w') : Sb w0 w' L :=
  ⟨h.1.trans (hb.mono h.1.size), fun c hc => ⟨(h.2 c hc).1, (hb.block _ (Array.getElem?_eq_some_iff.1 (h.2 c hc).2).1).trans (h.2 c hc).2⟩⟩
theorem Sb.drewN (h : Sb w0 w L) (n : Nat) : Sb w0 (w.drewN n) L := ⟨below_drewN h.1 n, h.2⟩
theorem Sb.drew (h : Sb w0 w L) : Sb w0 w.drew L := h.drewN 1
theorem Sb.alloc (h : Sb w0 w L) (o : Obj) : Sb w0 (w.alloc o) ((w.heap.size, o) :: L) := by
  have h1 : Sb w0 (w.alloc o) L := h.up ((Below.refl _ _).alloc (Nat.le_refl _) _)
  refine ⟨h1.1, fun c hc => ?_⟩
  rcases List.mem_cons.1 hc with rfl | hc
  · exact ⟨h.1.size, heap_alloc_last w o⟩
  · exact h1.2 c hc
theorem Sb.sub (h : Sb w0 w L) (hs : ∀ c ∈ M, c ∈ L) : Sb w0 w M := ⟨h.1, fun c hc => h.2 c (hs c hc)⟩
theorem Sb.set {b i : Nat} {cs : Array Value} {t : TypeId} (h : Sb w0 w ((b, .cells cs t (0, 0)) :: L)) (v : Value) (hne : ∀ c ∈ L, c.1 ≠ b) :
    Sb w0 (w.setCell ⟨b, i, none⟩ v) ((b, .cells (cs.setIfInBounds i v) t (0, 0)) :: L) := by
  have hb := h.2 _ (List.mem_cons_self ..)
  refine ⟨h.1.setCell (p := ⟨b, i, none⟩) hb.1 _, fun c hc => ?_⟩
  rcases List.mem_cons.1 hc with rfl | hc
  · exact ⟨hb.1, heap_setCell_same w b i cs t v hb.2⟩
  · exact ⟨(h.2 c (List.mem_cons_of_mem _ hc)).1, (heap_setCell_other w _ c.1 v (hne c hc)).trans (h.2 c (List.mem_cons_of_mem _ hc)).2⟩
theorem Sb.setRow {b : Nat} {cs cs' : Array Value} {t : TypeId} (h : Sb w0 w ((b, .cells cs t (0, 0)) :: L)) (hne : ∀ c ∈ L, c.1 ≠ b) :
    Sb w0 (w.setRow b cs') ((b, .cells cs' t (0, 0)) :: L) := by
  have hb := h.2 _ (List.mem_cons_self ..)
  refine ⟨⟨h.1.os, h.1.tape, h.1.output, by simpa using h.1.size, fun k hk => (setRow_other w b k cs' (by omega)).trans (h.1.block k hk)⟩, fun c hc => ?_⟩
  rcases List.mem_cons.1 hc with rfl | hc
  · exact ⟨hb.1, setRow_heap w b cs cs' t (0, 0) hb.2⟩
  · exact ⟨(h.2 c (List.mem_cons_of_mem _ hc)).1, (setRow_other w b c.1 cs' (hne c hc)).trans (h.2 c (List.mem_cons_of_mem _ hc)).2⟩
theorem Sb.heap {b : Nat} {o : Obj} (h : Sb w0 w ((b, o) :: L)) : w.heap[b]? = some o := (h.2 _ (List.mem_cons_self ..)).2
theorem Sb.lt {b : Nat} {o : Obj} (h : Sb w0 w ((b, o) :: L)) : b < w.heap.size := (Array.getElem?_eq_some_iff.1 h.heap).1
theorem Sb.tl {c : Nat × Obj} (h : Sb w0 w (c :: L)) : Sb w0 w L := h.sub fun x hx => List.mem_cons_of_mem _ hx
theorem Sb.cell {b : Nat} {cs : Array Value} {t : TypeId} {fr : Nat × Nat} (h : Sb w0 w ((b, .cells cs t fr) :: L)) (j : Nat) : w.cell? ⟨b, j, none⟩ = cs[j]? := cell_of_row w b j cs t fr h.heap
theorem Sb.free {b : Nat} {cs : Array Value} {t : TypeId} (h : Sb w0 w ((b, .cells cs t (0, 0)) :: L)) (j : Nat) : w.frozen? ⟨b, j, none⟩ = false := frozen_of_row w b j cs t h.heap
end Go.Proofs.Ytemkppjdfjoipaa
end
section
/- Packages dfa, mini, munch. -/
namespace Go.Proofs.Ytemkppjdfjoipaa
set_option linter.unusedSimpArgs false
set_option linter.unusedVariables false
set_option maxRecDepth 100000
open Go.RowKit
/- Twins of rows in memory. -/
/-- A list, what stands behind it, its block, its room. -/
abbrev Ni := List Int × List Int × Nat × Nat
def nV (z : Ni) : Value := .slice (some ⟨z.2.2.1, 0, none⟩) z.1.length z.2.2.2
def TR (B : Nat) (w : World) (z : Ni) : Prop := w.ownsRow B 3 1 (.slice (some ⟨z.2.2.1, 0, none⟩) (z.1 ++ z.2.1).length z.2.2.2) (z.1 ++ z.2.1).length (zi (z.1 ++ z.2.1)) 
theorem row_base {w : World} {B C : Nat} {e : TypeId} {size : Nat} {v : Value} {n : Nat} {xs : List Value} (h : w.ownsRow B e size v n xs) (hc : C ≤ B) : w.ownsRow C e size v n xs := by
  refine ⟨h.1, ?_⟩
  rcases h.2 with h1 | ⟨g, cap, cur, hv, hb, hr⟩
  · exact .inl h1
  · exact .inr ⟨g, cap, cur, hv, Nat.le_trans hc hb, hr⟩
theorem TR.kept {B : Nat} {w w' : World} {z : Ni} {row : Option Nat} (h : TR B w z) (hg : w.grownBy w' row) (hn : some z.2.2.1 ≠ row) : TR B w' z :=
  World.ownsRow.kept h hg (.inr hn)
theorem TR.lt {B : Nat} {w : World} {z : Ni} (h : TR B w z) : B ≤ z.2.2.1 ∧ z.2.2.1 < w.heap.size := World.ownsRow.lt h _ rfl
/-- Rows of one's own in a row of one's own. -/
def TN (B : Nat) (zs : List Ni) (sl : Value) (w : World) : Prop := (∀ z ∈ zs, TR B w z ∧ some z.2.2.1 ≠ sl.ownBlock) ∧ w.ownsRow B 25 1 sl zs.length (zs.map nV)
theorem TN.nil (B : Nat) (w : World) : TN B [] (.slice none 0 0) w := ⟨fun z hz => absurd hz (by simp), ⟨by simp, .inl ⟨rfl, rfl⟩⟩⟩
theorem TN.up {B : Nat} {zs : List Ni} {sl : Value} {w w' : World} (h : TN B zs sl w) (hb : Below w.heap.size w w') : TN B zs sl w' := by
  have hg : w.grownBy w' none := ⟨hb.os, hb.tape, hb.output, hb.size, fun k hk _ => hb.block k hk⟩
  refine ⟨fun z hz => ⟨(h.1 z hz).1.kept hg (by simp), (h.1 z hz).2⟩, World.ownsRow.kept h.2 hg ?_⟩
  by_cases hp : sl.ownBlock = none
  · exact .inl hp
  · exact .inr hp
theorem TN.base {B C : Nat} {zs : List Ni} {sl : Value} {w : World} (h : TN B zs sl w) (hc : C ≤ B) : TN C zs sl w :=
  ⟨fun z hz => ⟨row_base (h.1 z hz).1 hc, (h.1 z hz).2⟩, row_base h.2 hc⟩
/-- One more. -/
theorem TN.app {B : Nat} {zs : List Ni} {sl sl' : Value} {w w2 : World} {z : Ni} (h : TN B zs sl w) (hz : TR B w z) (hne : some z.2.2.1 ≠ sl.ownBlock)
    (hown : w2.ownsRow B 25 1 sl' (zs.length + 1) (zs.map nV ++ [nV z])) (hg : w.grownBy w2 sl.ownBlock) (hat : sl'.ownBlock = sl.ownBlock ∨ sl'.ownBlock = some w.heap.size) : TN B (zs ++ [z]) sl' w2 := by
  refine ⟨fun y hy => ?_, ?_⟩
  · have key : ∀ y, TR B w y → some y.2.2.1 ≠ sl.ownBlock → TR B w2 y ∧ some y.2.2.1 ≠ sl'.ownBlock := fun y h1 h2 => by
      refine ⟨h1.kept hg h2, fun e => ?_⟩
      rcases hat with ha | ha
      · rw [ha] at e; exact h2 e
      · rw [ha] at e
        have := h1.lt.2
        have e2 := Option.some.inj e
        omega
    rcases List.mem_append.1 hy with hy | hy
    · exact key y (h.1 y hy).1 (h.1 y hy).2
    · simp at hy
      subst hy
      exact key y hz hne
  · rw [List.map_append, List.length_append]
    exact hown
theorem TN.other {B b : Nat} {zs : List Ni} {sl : Value} {w w' : World} (h : TN B zs sl w) (hg : w.grownBy w' (some b)) (h1 : ∀ z ∈ zs, z.2.2.1 ≠ b) (h2 : sl.ownBlock ≠ some b) : TN B zs sl w' :=
  ⟨fun z hz => ⟨(h.1 z hz).1.kept hg (fun e => h1 z hz (by simpa using e)), (h.1 z hz).2⟩, World.ownsRow.kept h.2 hg (.inr h2)⟩
theorem row_form {y : World} {B : Nat} {e : TypeId} {sl : Value} {n : Nat} {xs : List Value} {k : Nat} (h : y.ownsRow B e k sl n xs) : ∃ p c, sl = .slice p n c := by
  rcases h.2 with ⟨rfl, rfl⟩ | ⟨g, cap, cur, rfl, _⟩
  · exact ⟨_, _, rfl⟩
  · exact ⟨_, _, rfl⟩
theorem TN.form {B : Nat} {zs : List Ni} {sl : Value} {w : World} (h : TN B zs sl w) : ∃ p c, sl = .slice p zs.length c := row_form h.2
/-- The marks: their lists. -/
def mks (k : Nat) : List (List Int) := (List.range k).map fun i : Nat => [-7000 - (i : Int)]
theorem Sb.grown {w0 w w' : World} {L : List (Nat × Obj)} {row : Option Nat} (h : Sb w0 w L) (hg : w.grownBy w' row) (hr : ∀ g, row = some g → w0.heap.size ≤ g ∧ ∀ c ∈ L, c.1 ≠ g) : Sb w0 w' L :=
  ⟨below_grown h.1 hg (fun g e => (hr g e).1) h.1.size, fun c hc => ⟨(h.2 c hc).1, (hg.block _ (Array.getElem?_eq_some_iff.1 (h.2 c hc).2).1 (fun e => (hr c.1 e.symm).2 c hc rfl)).trans (h.2 c hc).2⟩⟩
def zero26 : Array Value := #[.int .i64 0] ++ Array.replicate 256 (.int .u8 0) ++ #[.slice none 0 0, .slice none 0 0]
end Go.Proofs.Ytemkppjdfjoipaa
end
section
/- Packages dfa, mini, munch. -/
namespace Go.Proofs.Ytemkppjdfjoipaa
set_option linter.unusedSimpArgs false
set_option linter.unusedVariables false
set_option maxRecDepth 100000
open Go.RowKit
/- goesOn. -/
theorem goes1 (x : Int) (w : World) : Calls Try.prog 100 #[.int .i64 x] w fun e w' => e = .returned (.bool (decide (0 ≤ x))) ∧ w' = w := by
  go_enter Try.func100, Try.ntmps100
  by_cases h : 0 ≤ x
  · have h' : ¬ x < 0 := by omega
    go_wp2_with fail
    go_ret
    exact ⟨by simp [h], rfl⟩
  · have h' : x < 0 := by omega
    go_wp2_with fail
    go_ret
    exact ⟨by simp; omega, rfl⟩
set_option maxHeartbeats 4000000 in
theorem index_fn {D : Nat → Prop} {w : World} {r : List Int} {p : Option Addr} {c : Nat} (hD : ∀ b, D b → b < w.heap.size) (h : IV D w r (.slice p r.length c)) (hl : r.length ≤ 9223372036854775806) :
    Calls Try.prog 91 #[.slice p r.length c, .func (.func 100) #[] #[]] w fun e w' => ∃ k : Int, e = .returned (.int .i64 k) ∧ decide (0 ≤ k) = onRow r ∧ Below w.heap.size w w' := by
  have HIV := Lib.hid h
  have HD := Lib.hid hD
  have S0 := Lib.hid (Below.refl w.heap.size w)
  clear h hD
  go_enter Try.func91, Try.ntmps91
  go_wp2_with fail
  go_loopw [8] (fun i wr => ∃ j : Nat, i = .int .i64 (j : Nat) ∧ j ≤ r.length ∧ Hid ((r.take j).any (fun x => decide (0 ≤ x)) = false) ∧ Hid (Below w.heap.size w wr)) (fun i _ => r.length - (intOf i).toNat)
  case atStart => exact ⟨0, rfl, by omega, Lib.hid (by simp), S0⟩
  case round =>
  clear S0
  obtain ⟨j, rfl, hj, HA, HS⟩ := hrel
  by_cases hlt : j < r.length
  · obtain ⟨p', c', he, hh⟩ := HIV.out
    injection he with e1 e2 e3
    subst e1 e3
    obtain ⟨b, o, rfl, hb, hc⟩ := hh (by intro e; subst e; simp at hlt)
    have cx : wr.cell? ⟨b, o + j, none⟩ = some (.int .i64 r[j]) := (cell_same (HS.out.block b (HD.out b hb)) _).trans (hc j hlt)
    have hta : r.take (j + 1) = r.take j ++ [r[j]] := by rw [List.take_add_one, List.getElem?_eq_getElem hlt]; rfl
    have HY : Hid (0 ≤ r[j] → onRow r = true) := Lib.hid fun h => List.any_eq_true.2 ⟨r[j], List.getElem_mem hlt, by simpa using h⟩
    have HA2 : Hid (¬ 0 ≤ r[j] → (r.take (j + 1)).any (fun x => decide (0 ≤ x)) = false) := Lib.hid fun h => by
      rw [hta, List.any_append, HA.out]; simp at h ⊢; exact h
    generalize r[j] = x at *
    have hltI : (j : Int) < (r.length : Int) := by omega
    have hjI : ¬ (j : Int) < 0 := by omega
    clear hh hc hta e2
    go_wp2_with fail
    refine (goes1 x wr).mono ?_
    rintro _ w1 ⟨rfl, rfl⟩
    by_cases hx : 0 ≤ x
    · have HR := Lib.hid (HY.out hx)
      rw [decide_eq_true hx]
      clear HY HA2 HA
      go_wp2_with fail
      go_ret
      exact ⟨j, rfl, by rw [HR.out]; simp, HS.out⟩
    · have HR := Lib.hid (HA2.out (by omega))
      rw [decide_eq_false hx]
      clear HY HA2 HA
      go_wp2_with fail
      go_roundw
      case rel => exact ⟨j + 1, by go_num, by omega, HR, HS⟩
      case measure => simp [intOf]; omega
  · obtain rfl : j = r.length := by omega
    have HR : Hid (onRow r = false) := Lib.hid (by have := HA.out; rwa [List.take_length] at this)
    have hltI : ¬ (r.length : Int) < (r.length : Int) := by omega
    clear HA
    go_wp2_with fail
    go_ret
    exact ⟨-1, rfl, by rw [HR.out]; simp, HS.out⟩
theorem goes_any {D : Nat → Prop} {w : World} {r : List Int} {p : Option Addr} {c : Nat} (hD : ∀ b, D b → b < w.heap.size) (h : IV D w r (.slice p r.length c)) (hl : r.length ≤ 9223372036854775806) :
    Calls Try.prog 99 #[.slice p r.length c] w fun e w' => e = .returned (.bool (onRow r)) ∧ Below w.heap.size w w' := by
  have HC := Lib.hid (index_fn hD h hl)
  have HC2 : Hid (Calls Try.prog 77 #[.slice p r.length c, .func (.func 100) #[] #[]] w fun e w' => e = .returned (.bool (onRow r)) ∧ Below w.heap.size w w') := Lib.hid (by
    clear h hD
    generalize onRow r = o at *
    generalize r.length = n at *
    go_enter Try.func77, Try.ntmps77
    go_wp2_with fail
    refine HC.out.mono ?_
    rintro _ w1 ⟨k, rfl, hk, hb⟩
    have HB := Lib.hid hb
    have HK := Lib.hid hk
    clear hk hb
    by_cases hk0 : 0 ≤ k
    · have hk' : ¬ k < 0 := by omega
      go_wp2_with fail
      go_ret
      exact ⟨by rw [← HK.out]; simp [hk0], HB.out⟩
    · have hk' : k < 0 := by omega
      go_wp2_with fail
      go_ret
      exact ⟨by rw [← HK.out, decide_eq_false (by omega)]; rfl, HB.out⟩)
  clear HC h hD
  generalize onRow r = o at *
  generalize r.length = n at *
  go_enter Try.func99, Try.ntmps99
  go_wp2_with fail
  refine HC2.out.mono ?_
  rintro _ w1 ⟨rfl, hb⟩
  have HB := Lib.hid hb
  clear hb
  go_wp2_with fail
  go_ret
  exact ⟨rfl, HB.out⟩
end Go.Proofs.Ytemkppjdfjoipaa
end
