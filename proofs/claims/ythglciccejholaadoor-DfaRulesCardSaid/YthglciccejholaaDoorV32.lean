/- Texts of package regs, one behind the other. -/
import Derived.Test.YthglciccejholaaDoorProg
import Derived.Test.YthglciccejholaaDoorV31
import Derived.WalkKit
import Derived.BigFrame
import Derived.WalkLawsBesides
import Derived.WalkSpells
import Derived.Outline
import Derived.Lib.Walk
import Derived.Lib.Hide
import Derived.Lib.Slices
import Derived.Lib.Strings
import Derived.RegionTactic
import Derived.LoopTactic
import Derived.Below
import Derived.IntWalk
import Derived.Deep.QuietTactic
import Derived.BigQuiet
import Derived.Deep.MidRow
import Derived.Maps.AppendAt
import Derived.Laws.Rows
import Derived.Laws.Tables
import Derived.Deep.WholeRow
import Derived.Deep.Cut
import Derived.Deep.CutRange
import Derived.Lib.SliceRun
import Derived.Laws.MakeOwn
import Derived.Deep.RegionLaw
import Derived.Deep.RegionLawGrows
import Derived.Deep.RegionHeld3
import Derived.RegionCalls
import Derived.Deep.RegionWith
import Derived.Deep.Light
import Derived.Laws.CopyOwn
import Derived.Laws.ResultCell
import Derived.Stop.BytesEq
import Derived.Test.YthglciccejholaaDoorV1
import Derived.Test.YthglciccejholaaDoorFl
import Derived.Test.YthglciccejholaaDoorV18
import Derived.Test.YthglciccejholaaDoorV26
import Derived.Test.YthglciccejholaaDoorV20
import Derived.RangeFuncNested
import Derived.RangeFuncBound
import Derived.RangeFuncCalls
import Derived.RangeFuncLeaves
import Derived.RangeFuncBox
import Derived.Shelf.Abstract
import Derived.Shelf.RegionOpen
import Derived.OwnWalkIn
import Derived.TacticsInMore
import Derived.LoopNIn
import Derived.LoopIn
import Derived.Test.YthglciccejholaaDoorV30
import Derived.Test.YthglciccejholaaDoorV23
section
/- Packages dfa, mini, munch. -/
namespace Go.Proofs.YthglciccejholaaDoor
set_option linter.unusedSimpArgs false
set_option linter.unusedVariables false
set_option maxRecDepth 100000
open Go.RowKit
/- DfaBig. -/
end Go.Proofs.YthglciccejholaaDoor
end
section
/- Packages dfa, mini, munch. -/
namespace Go.Proofs.YthglciccejholaaDoor
set_option linter.unusedSimpArgs false
set_option linter.unusedVariables false
set_option maxRecDepth 100000
open Go.RowKit
/- TwinInts, SameInts, LeftInts. -/
def zi (l : List Int) : List Value := l.map fun x => .int .i64 x
def mk7 (k : Nat) : List Int := (List.range k).map fun i : Nat => (-7000 - (i : Int))
/-- A twin of a list of numbers: new memory, three marks behind it. -/
def TI (B : Nat) (w : World) (l : List Int) (v : Value) : Prop := ∃ g cap, v = .slice (some ⟨g, 0, none⟩) l.length cap ∧ w.ownsRow B 3 1 (.slice (some ⟨g, 0, none⟩) (l.length + 3) cap) (l.length + 3) (zi (l ++ mk7 3))
theorem d7_at_worldQ {Q : Exit → Act → World → Prop} {e : Exit} {a : Act} {w : World} (R : World → Prop) (hR : R w) (h : ∀ y, R y → Q e a y) : Q e a w := h w hR
theorem d7_at_world {P : Program} {c : Code} {Q : Exit → Act → World → Prop} {a : Act} {w : World} (R : World → Prop) (hR : R w) (h : ∀ y, R y → c.wp P Q a y) : c.wp P Q a w := h w hR
theorem d7_below_grown {B : Nat} {w0 w w' : World} {row : Option Nat} (h : Below B w0 w) (hg : w.grownBy w' row) (hr : ∀ g, row = some g → B ≤ g) (hB : B ≤ w.heap.size) : Below B w0 w' :=
  ⟨hg.os.trans h.os, hg.tape.trans h.tape, hg.output.trans h.output, Nat.le_trans h.size hg.size, fun k hk => (hg.block k (by omega) (fun e => by have := hr k e.symm; omega)).trans (h.block k hk)⟩
end Go.Proofs.YthglciccejholaaDoor
end
section
/- Packages dfa, mini, munch. -/
namespace Go.Proofs.YthglciccejholaaDoor
set_option linter.unusedSimpArgs false
set_option linter.unusedVariables false
set_option maxRecDepth 100000
open Go.RowKit
/- SameDfa. -/
end Go.Proofs.YthglciccejholaaDoor
end
section
/- Packages dfa, mini, munch. -/
namespace Go.Proofs.YthglciccejholaaDoor
set_option linter.unusedSimpArgs false
set_option linter.unusedVariables false
set_option maxRecDepth 100000
open Go.RowKit
/- SameDfa. -/
end Go.Proofs.YthglciccejholaaDoor
end
section
/- Packages dfa, mini, munch. -/
namespace Go.Proofs.YthglciccejholaaDoor
set_option linter.unusedSimpArgs false
set_option linter.unusedVariables false
set_option maxRecDepth 100000
open Go.RowKit
/- Twins of rows in memory. -/
/-- A list, what stands behind it, its block, its room. -/
abbrev Ni := List Int × List Int × Nat × Nat
def d7_nV (z : Ni) : Value := .slice (some ⟨z.2.2.1, 0, none⟩) z.1.length z.2.2.2
def TR (B : Nat) (w : World) (z : Ni) : Prop := w.ownsRow B 3 1 (.slice (some ⟨z.2.2.1, 0, none⟩) (z.1 ++ z.2.1).length z.2.2.2) (z.1 ++ z.2.1).length (zi (z.1 ++ z.2.1)) 
theorem row_base {w : World} {B C : Nat} {e : TypeId} {size : Nat} {v : Value} {n : Nat} {xs : List Value} (h : w.ownsRow B e size v n xs) (hc : C ≤ B) : w.ownsRow C e size v n xs := by
  refine ⟨h.1, ?_⟩
  rcases h.2 with h1 | ⟨g, cap, cur, hv, hb, hr⟩
  · exact .inl h1
  · exact .inr ⟨g, cap, cur, hv, Nat.le_trans hc hb, hr⟩
theorem TR.kept {B : Nat} {w w' : World} {z : Ni} {row : Option Nat} (h : TR B w z) (hg : w.grownBy w' row) (hn : some z.2.2.1 ≠ row) : TR B w' z :=
  World.ownsRow.kept h hg (.inr hn)
theorem TR.lt {B : Nat} {w : World} {z : Ni} (h : TR B w z) : B ≤ z.2.2.1 ∧ z.2.2.1 < w.heap.size := World.ownsRow.lt h _ rfl
/-- Rows of one's own in a row of one's own. -/
def TN (B : Nat) (zs : List Ni) (sl : Value) (w : World) : Prop := (∀ z ∈ zs, TR B w z ∧ some z.2.2.1 ≠ sl.ownBlock) ∧ w.ownsRow B 39 1 sl zs.length (zs.map d7_nV)
theorem TN.nil (B : Nat) (w : World) : TN B [] (.slice none 0 0) w := ⟨fun z hz => absurd hz (by simp), ⟨by simp, .inl ⟨rfl, rfl⟩⟩⟩
theorem TN.up {B : Nat} {zs : List Ni} {sl : Value} {w w' : World} (h : TN B zs sl w) (hb : Below w.heap.size w w') : TN B zs sl w' := by
  have hg : w.grownBy w' none := ⟨hb.os, hb.tape, hb.output, hb.size, fun k hk _ => hb.block k hk⟩
  refine ⟨fun z hz => ⟨(h.1 z hz).1.kept hg (by simp), (h.1 z hz).2⟩, World.ownsRow.kept h.2 hg ?_⟩
  by_cases hp : sl.ownBlock = none
  · exact .inl hp
  · exact .inr hp
theorem TN.base {B C : Nat} {zs : List Ni} {sl : Value} {w : World} (h : TN B zs sl w) (hc : C ≤ B) : TN C zs sl w :=
  ⟨fun z hz => ⟨row_base (h.1 z hz).1 hc, (h.1 z hz).2⟩, row_base h.2 hc⟩
/-- One more. -/
theorem TN.app {B : Nat} {zs : List Ni} {sl sl' : Value} {w w2 : World} {z : Ni} (h : TN B zs sl w) (hz : TR B w z) (hne : some z.2.2.1 ≠ sl.ownBlock)
    (hown : w2.ownsRow B 39 1 sl' (zs.length + 1) (zs.map d7_nV ++ [d7_nV z])) (hg : w.grownBy w2 sl.ownBlock) (hat : sl'.ownBlock = sl.ownBlock ∨ sl'.ownBlock = some w.heap.size) : TN B (zs ++ [z]) sl' w2 := by
  refine ⟨fun y hy => ?_, ?_⟩
  · have key : ∀ y, TR B w y → some y.2.2.1 ≠ sl.ownBlock → TR B w2 y ∧ some y.2.2.1 ≠ sl'.ownBlock := fun y h1 h2 => by
      refine ⟨h1.kept hg h2, fun e => ?_⟩
      rcases hat with ha | ha
      · rw [ha] at e; exact h2 e
      · rw [ha] at e
        have := h1.lt.2
        have e2 := Option.some.inj e
        omega
    rcases List.mem_append.1 hy with hy | hy
    · exact key y (h.1 y hy).1 (h.1 y hy).2
    · simp at hy
      subst hy
      exact key y hz hne
  · rw [List.map_append, List.length_append]
    exact hown
theorem TN.other {B b : Nat} {zs : List Ni} {sl : Value} {w w' : World} (h : TN B zs sl w) (hg : w.grownBy w' (some b)) (h1 : ∀ z ∈ zs, z.2.2.1 ≠ b) (h2 : sl.ownBlock ≠ some b) : TN B zs sl w' :=
  ⟨fun z hz => ⟨(h.1 z hz).1.kept hg (fun e => h1 z hz (by simpa using e)), (h.1 z hz).2⟩, World.ownsRow.kept h.2 hg (.inr h2)⟩
theorem d7_row_form {y : World} {B : Nat} {e : TypeId} {sl : Value} {n : Nat} {xs : List Value} {k : Nat} (h : y.ownsRow B e k sl n xs) : ∃ p c, sl = .slice p n c := by
  rcases h.2 with ⟨rfl, rfl⟩ | ⟨g, cap, cur, rfl, _⟩
  · exact ⟨_, _, rfl⟩
  · exact ⟨_, _, rfl⟩
theorem TN.form {B : Nat} {zs : List Ni} {sl : Value} {w : World} (h : TN B zs sl w) : ∃ p c, sl = .slice p zs.length c := d7_row_form h.2
def tw (l : List Int) (g cap : Nat) : Ni := (l, mk7 3, g, cap)
/-- The marks: their lists. -/
def mks (k : Nat) : List (List Int) := (List.range k).map fun i : Nat => [-7000 - (i : Int)]
theorem Sb.grown {w0 w w' : World} {L : List (Nat × Obj)} {row : Option Nat} (h : Sb w0 w L) (hg : w.grownBy w' row) (hr : ∀ g, row = some g → w0.heap.size ≤ g ∧ ∀ c ∈ L, c.1 ≠ g) : Sb w0 w' L :=
  ⟨d7_below_grown h.1 hg (fun g e => (hr g e).1) h.1.size, fun c hc => ⟨(h.2 c hc).1, (hg.block _ (Array.getElem?_eq_some_iff.1 (h.2 c hc).2).1 (fun e => (hr c.1 e.symm).2 c hc rfl)).trans (h.2 c hc).2⟩⟩
def zero26 : Array Value := #[.int .i64 0] ++ Array.replicate 256 (.int .u8 0) ++ #[.slice none 0 0, .slice none 0 0]
theorem info26r : (Tryd.prog.info? 48).map (fun i => (i.zero, i.size)) = some (some (.agg zero26), 259) := by kernel_rfl
theorem zero26_size : zero26.size = 259 := by kernel_rfl
end Go.Proofs.YthglciccejholaaDoor
end
section
/- Packages dfa, mini, munch. -/
namespace Go.Proofs.YthglciccejholaaDoor
set_option linter.unusedSimpArgs false
set_option linter.unusedVariables false
set_option maxRecDepth 100000
open Go.RowKit
/- TwinDfa. -/
end Go.Proofs.YthglciccejholaaDoor
end
section
/- Package dfa. -/
namespace Go.Proofs.YthglciccejholaaDoor
set_option linter.unusedSimpArgs false
set_option linter.unusedVariables false
set_option maxRecDepth 100000
open Go.RowKit Go.Shelf
/- Own things side by side; what automaton makes, plain. -/
open Go.Maps
theorem Sep.at {B : Nat} {w0 w : World} {x : It} {L : List It} (h : Sep B w0 w (x :: L)) : x.lies B w := h.li x (List.mem_cons_self ..)
theorem Sep.swap {B : Nat} {w0 w : World} {L : List It} {x y : It} (h : Sep B w0 w (x :: y :: L)) : Sep B w0 w (y :: x :: L) := h.perm (List.Perm.swap _ _ _)
theorem Sep.boxAt {B b : Nat} {w0 w : World} {L : List It} {cs : Array Value} {t : TypeId} (h : Sep B w0 w (.box b (.cells cs t (0, 0)) :: L)) (j : Nat) : w.cell? ⟨b, j, none⟩ = cs[j]? := cell_of_row w b j cs t (0, 0) h.at.2
theorem Sep.fz {B b : Nat} {w0 w : World} {L : List It} {cs : Array Value} {t : TypeId} (h : Sep B w0 w (.box b (.cells cs t (0, 0)) :: L)) (j : Nat) : w.frozen? ⟨b, j, none⟩ = false := frozen_of_row w b j cs t h.at.2
theorem Sep.setc {B b : Nat} {w0 w : World} {L : List It} {cs : Array Value} {t : TypeId} (h : Sep B w0 w (.box b (.cells cs t (0, 0)) :: L)) (i : Nat) (v : Value) : Sep B w0 (w.setCell ⟨b, i, none⟩ v) (.box b (.cells (cs.setIfInBounds i v) t (0, 0)) :: L) :=
  h.put ⟨rfl, rfl, rfl, by simp, fun k hk hne => heap_setCell_other w _ k _ (fun e => hne (by rw [e]))⟩ (heap_setCell_same w b i cs t v h.at.2)
theorem Sep.to {B : Nat} {w0 w : World} {L : List It} (k : Nat) (h : Sep B w0 w L) (hk : k < L.length) : Sep B w0 w (L[k] :: L.eraseIdx k) := by
  refine h.perm ?_
  have h1 := List.take_append_drop k L
  have e : L.drop k = L[k] :: L.drop (k + 1) := List.drop_eq_getElem_cons hk
  rw [List.eraseIdx_eq_take_drop_succ]
  have h2 : List.Perm (L.take k ++ L[k] :: L.drop (k + 1)) (L[k] :: (L.take k ++ L.drop (k + 1))) := List.perm_middle
  rw [← e, h1] at h2
  exact h2
theorem Sep.sub {B : Nat} {w0 w : World} {L L' : List It} (h : Sep B w0 w L) (hs : List.Sublist L' L) : Sep B w0 w L' :=
  ⟨h.bel, h.sz, fun y hy => h.li y (hs.subset hy), h.ap.sublist hs⟩
theorem Sep.allocAt {B b : Nat} {w0 w : World} {L : List It} (h : Sep B w0 w L) (hb : w.heap.size = b) (o : Obj) : Sep B w0 (w.alloc o) (.box b o :: L) := hb ▸ h.alloc o
theorem Sep.putRow {B b : Nat} {w0 w : World} {L : List It} {cs : Array Value} {t : TypeId} (h : Sep B w0 w (.box b (.cells cs t (0, 0)) :: L)) (cs' : Array Value) : Sep B w0 (w.setRow b cs') (.box b (.cells cs' t (0, 0)) :: L) :=
  h.put ⟨rfl, rfl, rfl, by simp [World.setRow], fun k hk hne => setRow_other w b k _ (fun e => hne (by rw [e]))⟩ (setRow_heap w b _ _ t (0, 0) h.at.2)
/-- A row by classes. -/
def nxF (cl so : Nat → Nat) (row : List Int) (m k : Nat) : List Int := (List.range k).foldl (fun a i => a.set (cl i) (row.getD (so i) 0)) (List.replicate m 0)
theorem nxF_succ (cl so : Nat → Nat) (row : List Int) (m k : Nat) : nxF cl so row m (k + 1) = (nxF cl so row m k).set (cl k) (row.getD (so k) 0) := by
  unfold nxF; rw [List.range_succ, List.foldl_append]; rfl
theorem nxF_len (cl so : Nat → Nat) (row : List Int) (m : Nat) : ∀ k, (nxF cl so row m k).length = m
  | 0 => by simp [nxF]
  | k + 1 => by rw [nxF_succ, List.length_set, nxF_len]
theorem zA_set (l : List Int) (k : Nat) (x : Int) : (zA l).setIfInBounds k (.int .i64 x) = zA (l.set k x) := by
  unfold zA
  rw [List.setIfInBounds_toArray, List.map_set]
theorem zA_get (l : List Int) (k : Nat) (h : k < l.length) : (zA l)[k]? = some (.int .i64 (l.getD k 0)) := by
  unfold zA
  rw [List.getElem?_toArray, List.getElem?_map, List.getElem?_eq_getElem h]
  simp [List.getD, h]
theorem clsS_cnt (so cl : Nat → Nat) (row : List Int) {i : Nat} (hi : i < 256) : clsS so cl row i < cntS so cl row := by
  have h1 := seen_mem (keyC so cl row) 256 i hi
  have h2 := idx_lt h1
  unfold clsS cntS
  omega
theorem cntS_le (so cl : Nat → Nat) (row : List Int) : cntS so cl row ≤ 256 := by
  have := seen_len (keyC so cl row) 256
  unfold cntS; omega
theorem clsG_lt (so : Nat → Nat) : ∀ (rows : List (List Int)) (row : List Int) (s : (Nat → Nat) × Nat), ((∀ i, i < 256 → (clsG so (row :: rows) s).1 i < (clsG so (row :: rows) s).2) ∧ (clsG so (row :: rows) s).2 ≤ 256)
  | [], row, s => by
    rw [clsG, clsG]
    have h1 : ∀ i, i < 256 → _ := fun i (hi : i < 256) => clsS_cnt so s.1 row hi
    have h2 := cntS_le so s.1 row
    generalize clsS so s.1 row = a at *
    generalize cntS so s.1 row = b at *
    exact ⟨h1, h2⟩
  | r :: rs, row, s => by
    rw [clsG]
    exact clsG_lt so rs r _
/-- The automaton of sets and their rows. -/
def autX (so : Nat → Nat) (ss : List Nst) (sets : List (List Nat)) (rows : List (List Int)) : Df :=
  ⟨0, (clsG so rows (fun _ => 0, 0)).1, rows.map fun r => nxF (clsG so rows (fun _ => 0, 0)).1 so r (clsG so rows (fun _ => 0, 0)).2 256, sets.map fun l => lstR ss ((List.range 4096).filter (mb l))⟩
/-- An automaton that was made: its rows each for itself. -/
def AutP (B : Nat) (w0 : World) (X : Df) (L : List It) (e : Ending) (w' : World) : Prop := ∃ (ds : Array Value) (p : Option Addr) (c : Nat) (q : Option Addr) (f : Nat) (zs : List (List Int × Nat)), e = .returned (.agg ds) ∧ DC X ds p q c f ∧ zs.map (fun z => z.1) = X.nx ∧
  Sep B w0 w' (.row (.slice p X.nx.length c) 39 1 zs.length (zs.map zV) :: .row (.slice q X.rl.length f) 3 1 X.rl.length (zi X.rl) :: (zs.map zI ++ L))
end Go.Proofs.YthglciccejholaaDoor
end
section
/- Package dfa. -/
namespace Go.Proofs.YthglciccejholaaDoor
set_option linter.unusedSimpArgs false
set_option linter.unusedVariables false
set_option maxRecDepth 100000
open Go.RowKit Go.Shelf
/- A new automaton's cells. -/
open Go.Maps
theorem zip_put (off : Nat) : ∀ (l : List Value) (k : Nat) (cs : Array Value), (l.zipIdx k).foldl (fun cs (x : Value × Nat) => cs.setIfInBounds (off + x.2) x.1) cs = putA cs (off + k) l
  | [], _, _ => rfl
  | v :: l, k, cs => by
    rw [List.zipIdx_cons, List.foldl_cons, zip_put off l (k + 1)]
    rfl
def dA (f : Nat → Nat) : Array Value := putA zero26 1 (cA f).toList
theorem built48 (parts : List (Nat × Value)) : Tryd.prog.built 48 parts = Instr.fill (fun i => ([(0, 1), (1, 256), (257, 1), (258, 1)] : List (Nat × Nat)).toArray[i]?) zero26 parts := by kernel_rfl
theorem built48c (f : Nat → Nat) : Tryd.prog.built 48 [(1, .agg (cA f))] = some (dA f) := by
  rw [built48]
  have hc : (Value.agg (cA f)).cells = cA f := rfl
  have h1 : (List.toArray [((0 : Nat), (1 : Nat)), (1, 256), (257, 1), (258, 1)])[1]? = some (1, 256) := rfl
  have h2 : (decide (256 ≠ 256) || decide (1 + 256 > zero26.size)) = false := by rw [zero26_size]; rfl
  unfold Instr.fill
  simp only [h1, hc, cA_size]
  rw [h2, if_neg (by decide)]
  unfold Instr.fill dA
  rw [← Array.foldl_toList, Array.toList_zipIdx]
  exact congrArg some (zip_put 1 (cA f).toList 0 zero26)
theorem dA_size (f : Nat → Nat) : (dA f).size = 259 := by unfold dA; rw [putA_size]; exact zero26_size
theorem dA_get (f : Nat → Nat) {i : Nat} (h : i < 256) : (dA f)[1 + i]? = some (.int .u8 (f i : Nat)) := by
  unfold dA
  rw [putA_get _ _ _ _ (by rw [zero26_size, Array.length_toList, cA_size]; omega), if_pos (by rw [Array.length_toList, cA_size]; omega), show 1 + i - 1 = i by omega, Array.getElem?_toList]
  exact cA_get f h
theorem dA_out (f : Nat → Nat) {j : Nat} (h : j = 0 ∨ 257 ≤ j) : (dA f)[j]? = zero26[j]? := by
  unfold dA
  rw [putA_get _ _ _ _ (by rw [zero26_size, Array.length_toList, cA_size]; omega), if_neg (by rw [Array.length_toList, cA_size]; omega)]
theorem zero26_one : ∀ v ∈ zero26, v.oneCell' = true := by
  have h : (zero26.all (·.oneCell')) = true := by kernel_rfl
  intro v hv
  obtain ⟨i, hi, rfl⟩ := Array.getElem_of_mem hv
  exact Array.all_eq_true.1 h i hi
theorem putA_one : ∀ (vs : List Value) (cs : Array Value) (o : Nat), (∀ v ∈ cs, v.oneCell' = true) → (∀ v ∈ vs, v.oneCell' = true) → ∀ v ∈ putA cs o vs, v.oneCell' = true
  | [], cs, o, h, _ => h
  | x :: vs, cs, o, h, h2 => putA_one vs _ (o + 1) (fun v hv => by
      rcases Array.mem_or_eq_of_mem_setIfInBounds hv with h3 | h3
      · exact h v h3
      · rw [h3]; exact h2 x (List.mem_cons_self ..)) (fun v hv => h2 v (List.mem_cons_of_mem _ hv))
theorem dA_one (f : Nat → Nat) : ∀ v ∈ dA f, v.oneCell' = true := putA_one _ _ _ zero26_one (fun v hv => by
  have h := cA_one f
  obtain ⟨i, hi, rfl⟩ := Array.getElem_of_mem (Array.mem_toList_iff.1 hv)
  exact Array.all_eq_true.1 h i hi)
theorem wpList_build48 {ops : Array Oper} {rest : List Oper} {o : Oper} {a : Act} {w : World} {Q : Exit → Act → World → Prop} (hg : o.guard = none) (x : Operand) (ho : o.op = .build 48 #[(1, x)]) (f : Nat → Nat) (hx : a.eval x = .agg (cA f))
    (h : wpList Tryd.prog ops Q rest (a.put o.dst (.agg (dA f))) w) : wpList Tryd.prog ops Q (o :: rest) a w := by
  have e : ((#[(1, x)] : Array (Nat × Operand)).map fun (i, x) => (i, a.eval x)).toList = [(1, .agg (cA f))] := by simp [hx]
  refine wpList_build hg 48 _ ho ?_ ?_
  · rw [e, built48c, Option.isSome_some]
  · rw [e, built48c, Option.getD_some]; exact h
theorem info45z : (Tryd.prog.info? 45).map (fun i => (i.zero, i.size)) = some (some (.agg (Array.replicate 256 (.int .u8 0))), 256) := by kernel_rfl
end Go.Proofs.YthglciccejholaaDoor
end
