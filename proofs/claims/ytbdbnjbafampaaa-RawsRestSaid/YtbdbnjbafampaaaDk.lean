/- Packages dfa, mini, munch. -/
import Derived.Test.YtbdbnjbafampaaaProg
import Derived.Test.YtbdbnjbafampaaaBa
import Derived.Test.YtbdbnjbafampaaaDj
import Derived.WalkKit
import Derived.BigFrame
import Derived.Stop.BytesEq
import Derived.WalkLawsBesides
import Derived.WalkSpells
import Derived.Outline
import Derived.Lib.Walk
import Derived.Lib.Hide
import Derived.Lib.Slices
import Derived.Lib.Strings
import Derived.RegionTactic
import Derived.LoopTactic
import Derived.Below
import Derived.IntWalk
import Derived.Deep.QuietTactic
import Derived.BigQuiet
import Derived.Deep.MidRow
import Derived.Maps.AppendAt
import Derived.Laws.Rows
import Derived.Laws.Tables
import Derived.Deep.WholeRow
import Derived.Deep.Cut
import Derived.Deep.CutRange
import Derived.Lib.SliceRun
import Derived.Laws.MakeOwn
import Derived.Deep.RegionLaw
import Derived.Deep.RegionLawGrows
import Derived.Deep.RegionHeld3
import Derived.RegionCalls
import Derived.Deep.RegionWith
import Derived.Deep.Light
import Derived.Laws.CopyOwn
import Derived.Laws.ResultCell
namespace Go.Proofs.Ytbdbnjbafampaaa
set_option linter.unusedSimpArgs false
set_option linter.unusedVariables false
set_option maxRecDepth 100000
open Go.RowKit
/- Twins of rows in memory. -/
/-- A list, what stands behind it, its block, its room. -/
abbrev Ni := List Int × List Int × Nat × Nat
def nV (z : Ni) : Value := .slice (some ⟨z.2.2.1, 0, none⟩) z.1.length z.2.2.2
def TR (B : Nat) (w : World) (z : Ni) : Prop := w.ownsRow B 3 1 (.slice (some ⟨z.2.2.1, 0, none⟩) (z.1 ++ z.2.1).length z.2.2.2) (z.1 ++ z.2.1).length (zi (z.1 ++ z.2.1)) 
theorem row_base {w : World} {B C : Nat} {e : TypeId} {size : Nat} {v : Value} {n : Nat} {xs : List Value} (h : w.ownsRow B e size v n xs) (hc : C ≤ B) : w.ownsRow C e size v n xs := by
  refine ⟨h.1, ?_⟩
  rcases h.2 with h1 | ⟨g, cap, cur, hv, hb, hr⟩
  · exact .inl h1
  · exact .inr ⟨g, cap, cur, hv, Nat.le_trans hc hb, hr⟩
theorem TR.kept {B : Nat} {w w' : World} {z : Ni} {row : Option Nat} (h : TR B w z) (hg : w.grownBy w' row) (hn : some z.2.2.1 ≠ row) : TR B w' z :=
  World.ownsRow.kept h hg (.inr hn)
theorem TR.lt {B : Nat} {w : World} {z : Ni} (h : TR B w z) : B ≤ z.2.2.1 ∧ z.2.2.1 < w.heap.size := World.ownsRow.lt h _ rfl
/-- Rows of one's own in a row of one's own. -/
def TN (B : Nat) (zs : List Ni) (sl : Value) (w : World) : Prop := (∀ z ∈ zs, TR B w z ∧ some z.2.2.1 ≠ sl.ownBlock) ∧ w.ownsRow B 24 1 sl zs.length (zs.map nV)
theorem TN.nil (B : Nat) (w : World) : TN B [] (.slice none 0 0) w := ⟨fun z hz => absurd hz (by simp), ⟨by simp, .inl ⟨rfl, rfl⟩⟩⟩
theorem TN.up {B : Nat} {zs : List Ni} {sl : Value} {w w' : World} (h : TN B zs sl w) (hb : Below w.heap.size w w') : TN B zs sl w' := by
  have hg : w.grownBy w' none := ⟨hb.os, hb.tape, hb.output, hb.size, fun k hk _ => hb.block k hk⟩
  refine ⟨fun z hz => ⟨(h.1 z hz).1.kept hg (by simp), (h.1 z hz).2⟩, World.ownsRow.kept h.2 hg ?_⟩
  by_cases hp : sl.ownBlock = none
  · exact .inl hp
  · exact .inr hp
theorem TN.base {B C : Nat} {zs : List Ni} {sl : Value} {w : World} (h : TN B zs sl w) (hc : C ≤ B) : TN C zs sl w :=
  ⟨fun z hz => ⟨row_base (h.1 z hz).1 hc, (h.1 z hz).2⟩, row_base h.2 hc⟩
/-- One more. -/
theorem TN.app {B : Nat} {zs : List Ni} {sl sl' : Value} {w w2 : World} {z : Ni} (h : TN B zs sl w) (hz : TR B w z) (hne : some z.2.2.1 ≠ sl.ownBlock)
    (hown : w2.ownsRow B 24 1 sl' (zs.length + 1) (zs.map nV ++ [nV z])) (hg : w.grownBy w2 sl.ownBlock) (hat : sl'.ownBlock = sl.ownBlock ∨ sl'.ownBlock = some w.heap.size) : TN B (zs ++ [z]) sl' w2 := by
  refine ⟨fun y hy => ?_, ?_⟩
  · have key : ∀ y, TR B w y → some y.2.2.1 ≠ sl.ownBlock → TR B w2 y ∧ some y.2.2.1 ≠ sl'.ownBlock := fun y h1 h2 => by
      refine ⟨h1.kept hg h2, fun e => ?_⟩
      rcases hat with ha | ha
      · rw [ha] at e; exact h2 e
      · rw [ha] at e
        have := h1.lt.2
        have e2 := Option.some.inj e
        omega
    rcases List.mem_append.1 hy with hy | hy
    · exact key y (h.1 y hy).1 (h.1 y hy).2
    · simp at hy
      subst hy
      exact key y hz hne
  · rw [List.map_append, List.length_append]
    exact hown
theorem TN.other {B b : Nat} {zs : List Ni} {sl : Value} {w w' : World} (h : TN B zs sl w) (hg : w.grownBy w' (some b)) (h1 : ∀ z ∈ zs, z.2.2.1 ≠ b) (h2 : sl.ownBlock ≠ some b) : TN B zs sl w' :=
  ⟨fun z hz => ⟨(h.1 z hz).1.kept hg (fun e => h1 z hz (by simpa using e)), (h.1 z hz).2⟩, World.ownsRow.kept h.2 hg (.inr h2)⟩
theorem row_form {y : World} {B : Nat} {e : TypeId} {sl : Value} {n : Nat} {xs : List Value} {k : Nat} (h : y.ownsRow B e k sl n xs) : ∃ p c, sl = .slice p n c := by
  rcases h.2 with ⟨rfl, rfl⟩ | ⟨g, cap, cur, rfl, _⟩
  · exact ⟨_, _, rfl⟩
  · exact ⟨_, _, rfl⟩
theorem TN.form {B : Nat} {zs : List Ni} {sl : Value} {w : World} (h : TN B zs sl w) : ∃ p c, sl = .slice p zs.length c := row_form h.2
def tw (l : List Int) (g cap : Nat) : Ni := (l, mk7 3, g, cap)
def mkr (k g c : Nat) : Ni := ([-7000 - (k : Int)], [], g, c)
/-- The marks: their lists. -/
def mks (k : Nat) : List (List Int) := (List.range k).map fun i : Nat => [-7000 - (i : Int)]
theorem mks_succ (k : Nat) : mks (k + 1) = mks k ++ [[-7000 - (k : Int)]] := by simp [mks, List.range_succ]
theorem mks_len (k : Nat) : (mks k).length = k := by simp [mks]
theorem set_grown (w : World) (b i : Nat) (v : Value) : w.grownBy (w.setCell ⟨b, i, none⟩ v) (some b) := by
  have hb := (Below.refl 0 w).setCell (p := ⟨b, i, none⟩) (Nat.zero_le _) v
  exact ⟨hb.os, hb.tape, hb.output, hb.size, fun k _ hk => setCells_other (b := b) (by intro e; exact hk (by rw [e])) [v] i w⟩
theorem row_grown (w : World) (b : Nat) (cs : Array Value) : w.grownBy (w.setRow b cs) (some b) :=
  ⟨rfl, rfl, rfl, by simp, fun k _ hk => setRow_other w b k cs (by intro e; exact hk (by rw [e]))⟩
theorem Sb.grown {w0 w w' : World} {L : List (Nat × Obj)} {row : Option Nat} (h : Sb w0 w L) (hg : w.grownBy w' row) (hr : ∀ g, row = some g → w0.heap.size ≤ g ∧ ∀ c ∈ L, c.1 ≠ g) : Sb w0 w' L :=
  ⟨below_grown h.1 hg (fun g e => (hr g e).1) h.1.size, fun c hc => ⟨(h.2 c hc).1, (hg.block _ (Array.getElem?_eq_some_iff.1 (h.2 c hc).2).1 (fun e => (hr c.1 e.symm).2 c hc rfl)).trans (h.2 c hc).2⟩⟩
theorem info24b : (Try.prog.info? 24).map (fun i => (i.zero, i.size, i.bytes)) = some (some (.slice none 0 0), 1, 24) := by kernel_rfl
def zero26 : Array Value := #[.int .i64 0] ++ Array.replicate 256 (.int .u8 0) ++ #[.slice none 0 0, .slice none 0 0]
theorem info26r : (Try.prog.info? 26).map (fun i => (i.zero, i.size)) = some (some (.agg zero26), 259) := by kernel_rfl
theorem zero26_size : zero26.size = 259 := by kernel_rfl
end Go.Proofs.Ytbdbnjbafampaaa
