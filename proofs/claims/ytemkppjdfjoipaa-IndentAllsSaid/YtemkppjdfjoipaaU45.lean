/- Texts of package regs, one behind the other. -/
import Derived.Test.YtemkppjdfjoipaaProg
import Derived.Test.YtemkppjdfjoipaaU44
import Derived.WalkKit
import Derived.WalkLawsBesides
import Derived.WalkSpells
import Derived.Below
import Derived.Lib.Hide
import Derived.Outline
import Derived.Lib.IndexBytes
import Derived.WalkSmall
import Derived.Deep.QuietTactic
import Derived.BigQuiet
import Derived.StillTailTactics
import Derived.Test.YtemkppjdfjoipaaU43
import Derived.Test.YtemkppjdfjoipaaU33
import Derived.Deep.SlicePairs
import Derived.Deep.Slices
import Derived.Laws.IdiomArrays
import Derived.OpenShut
import Derived.WideBlind
import Derived.Great.BuildSlice
import Derived.Maps.OwnSet
import Derived.Maps.OwnOps
import Derived.Maps.Own
import Derived.DeepKeys5
import Derived.BigFrame
import Derived.WalkMore
import Derived.ScopeJumps
import Derived.Stop.BytesEq
import Derived.Lib.Walk
import Derived.Lib.Slices
import Derived.Lib.Strings
import Derived.RegionTactic
import Derived.LoopTactic
import Derived.IntWalk
import Derived.Deep.MidRow
import Derived.Maps.AppendAt
import Derived.Laws.Rows
import Derived.Laws.Tables
import Derived.Deep.WholeRow
import Derived.Deep.Cut
import Derived.Deep.CutRange
import Derived.Lib.SliceRun
import Derived.Laws.MakeOwn
import Derived.Deep.RegionLaw
import Derived.Deep.RegionLawGrows
import Derived.Deep.RegionHeld3
import Derived.RegionCalls
import Derived.Deep.RegionWith
import Derived.Deep.Light
import Derived.Laws.CopyOwn
import Derived.Laws.ResultCell
section
/- Package edits: as in layer 3. -/
namespace Go.Proofs.Ytemkppjdfjoipaa.Ed
set_option linter.unusedSimpArgs false
set_option linter.unusedVariables false
open Go.RowKit


/-- An edit as a value. -/
abbrev ed (s e : Int) (t : ByteArray) : Value := .agg #[.int .i64 s, .int .i64 e, .string t]
def withinB (a b c : Int) : Bool := decide (0 ≤ a ∧ a ≤ b ∧ b ≤ c)
def checkZ (n s e : Int) (t : ByteArray) : Int :=
  if n < 0 ∨ 65536 < n then 2 else if withinB s e n = false then 10 else if 65536 - (n - (e - s)) < (t.size : Int) then 3 else 0
theorem within_any (a b c : Int) (w : World) : Calls Try.prog 80 #[.int .i64 a, .int .i64 b, .int .i64 c] w fun x w' => x = .returned (.bool (withinB a b c)) ∧ w = w' := by
  by_cases h1 : 0 ≤ a
  · by_cases h2 : a ≤ b
    · by_cases h3 : b ≤ c
      · have hw : withinB a b c = true := by simp [withinB, h1, h2, h3]
        rw [hw]
        go_enter Try.func80, Try.ntmps80
        go_wp2
        go_ret
        exact ⟨rfl, rfl⟩
      · have hw : withinB a b c = false := by simp [withinB, h3]
        rw [hw]
        go_enter Try.func80, Try.ntmps80
        go_wp2
        go_ret
        exact ⟨rfl, rfl⟩
    · have hw : withinB a b c = false := by simp [withinB, h2]
      rw [hw]
      go_enter Try.func80, Try.ntmps80
      go_wp2
      go_ret
      exact ⟨rfl, rfl⟩
  · have hw : withinB a b c = false := by simp [withinB, h1]
    rw [hw]
    go_enter Try.func80, Try.ntmps80
    go_wp2
    go_ret
    exact ⟨rfl, rfl⟩
theorem within_yes (a b c : Int) (w : World) (h : withinB a b c = true) : Calls Try.prog 80 #[.int .i64 a, .int .i64 b, .int .i64 c] w fun x w' => x = .returned (.bool true) ∧ w = w' := by
  rw [← h]; exact within_any a b c w
theorem within_no (a b c : Int) (w : World) (h : withinB a b c = false) : Calls Try.prog 80 #[.int .i64 a, .int .i64 b, .int .i64 c] w fun x w' => x = .returned (.bool false) ∧ w = w' := by
  rw [← h]; exact within_any a b c w
theorem check_any (n s e : Int) (t : ByteArray) (w : World) (ht : t.size ≤ 9223372036854775807) :
    Calls Try.prog 50 #[.int .i64 n, ed s e t] w fun x w' => x = .returned (.int .i64 (checkZ n s e t)) ∧ Below w.heap.size w w' := by
  by_cases h1 : n < 0
  · have hz : checkZ n s e t = 2 := by simp [checkZ, h1]
    rw [hz]
    go_enter Try.func50, Try.ntmps50
    go_wp2
    go_ret
    exact ⟨rfl, (Below.refl _ _).alloc (Nat.le_refl _) _⟩
  · by_cases h2 : 65536 < n
    · have hz : checkZ n s e t = 2 := by simp [checkZ, h2]
      rw [hz]
      go_enter Try.func50, Try.ntmps50
      go_wp2
      go_ret
      exact ⟨rfl, (Below.refl _ _).alloc (Nat.le_refl _) _⟩
    · cases h3 : withinB s e n
      · have hz : checkZ n s e t = 10 := by simp [checkZ, h1, h2, h3]
        rw [hz]
        have h3' := Lib.hid h3; clear h3
        go_enter Try.func50, Try.ntmps50
        go_wp2_with (go_at_call 80; refine (within_no _ _ _ _ h3'.out).mono ?_; rintro e w' ⟨rfl, rfl⟩)
        go_ret
        exact ⟨rfl, (Below.refl _ _).alloc (Nat.le_refl _) _⟩
      · have hb : 0 ≤ s ∧ s ≤ e ∧ e ≤ n := by simpa [withinB] using h3
        obtain ⟨b1, b2, b3⟩ := hb
        by_cases h4 : 65536 - (n - (e - s)) < (t.size : Int)
        · have hz : checkZ n s e t = 3 := by unfold checkZ; rw [if_neg (by omega), if_neg (by simp [h3]), if_pos h4]
          rw [hz]
          have h3' := Lib.hid h3; clear h3
          go_enter Try.func50, Try.ntmps50
          go_wp2_with (go_at_call 80; refine (within_yes _ _ _ _ h3'.out).mono ?_; rintro e w' ⟨rfl, rfl⟩)
          go_ret
          exact ⟨rfl, (Below.refl _ _).alloc (Nat.le_refl _) _⟩
        · have hz : checkZ n s e t = 0 := by unfold checkZ; rw [if_neg (by omega), if_neg (by simp [h3]), if_neg h4]
          rw [hz]
          have h3' := Lib.hid h3; clear h3
          go_enter Try.func50, Try.ntmps50
          go_wp2_with (go_at_call 80; refine (within_yes _ _ _ _ h3'.out).mono ?_; rintro e w' ⟨rfl, rfl⟩)
          go_ret
          exact ⟨rfl, (Below.refl _ _).alloc (Nat.le_refl _) _⟩

/-- A boxed edit still lies there. -/
def EdAt (b : Nat) (s e : Int) (t : ByteArray) (w : World) : Prop :=
  w.cell? ⟨b, 0, none⟩ = some (.int .i64 s) ∧ w.cell? ⟨b, 1, none⟩ = some (.int .i64 e) ∧ w.cell? ⟨b, 2, none⟩ = some (.string t) ∧ b < w.heap.size
theorem EdAt.new (w : World) (s e : Int) (t : ByteArray) : EdAt w.heap.size s e t (w.alloc (.cells #[.int .i64 s, .int .i64 e, .string t] 45)) :=
  ⟨World.cell?_alloc_new _ _ _ _, World.cell?_alloc_new _ _ _ _, World.cell?_alloc_new _ _ _ _, by simp⟩
theorem EdAt.below {b B : Nat} {s e : Int} {t : ByteArray} {w w' : World} (h : EdAt b s e t w) (hb : Below B w w') (hB : b < B) : EdAt b s e t w' :=
  ⟨(hb.cell (p := ⟨b, 0, none⟩) hB).trans h.1, (hb.cell (p := ⟨b, 1, none⟩) hB).trans h.2.1, (hb.cell (p := ⟨b, 2, none⟩) hB).trans h.2.2.1, Nat.lt_of_lt_of_le h.2.2.2 hb.size⟩
theorem EdAt.alloc {b : Nat} {s e : Int} {t : ByteArray} {w : World} (h : EdAt b s e t w) (o : Obj) : EdAt b s e t (w.alloc o) :=
  h.below ((Below.refl w.heap.size w).alloc (Nat.le_refl _) o) h.2.2.2
end Go.Proofs.Ytemkppjdfjoipaa.Ed
end
section
/- Edit, plain -/
namespace Go.Proofs.Ytemkppjdfjoipaa.I1.X
set_option linter.unusedSimpArgs false
set_option linter.unusedVariables false
set_option maxRecDepth 100000
open Go.RowKit
/- Edit, plain. -/
/-- What Edit answers. -/
abbrev cpI (q1 q3 q4 : Option Addr) (e1 e3 e4 bT bR : Nat) (L : List P3) (x : Lx) (X : List It) : List It := .row (.slice q4 x.toks.length e4) 40 3 x.toks.length (tkL x.toks) :: .row (.slice q3 x.counts.length e3) 3 1 x.counts.length (zi x.counts) :: .box bT (.cells (csT (vsR bR 0 x.marks) x.marks) 36 (0, 0)) :: .box bR (.cells (zi (zcols x.marks)).toArray 3 (0, 0)) :: .row (.slice q1 L.length e1) 38 3 L.length (rwL (L.map tR)) :: X
abbrev cpV (q1 q3 q4 : Option Addr) (e1 e3 e4 bT : Nat) (L : List P3) (x : Lx) : Value := .agg #[.slice q1 L.length e1, .slice (some ⟨bT, 0, none⟩) x.marks.length x.marks.length, .slice q3 x.counts.length e3, .slice q4 x.toks.length e4]
/-- copied, with the slices' forms. -/
def CqP (w0 : World) (B : Nat) (X : List It) (L : List P3) (x : Lx) (e : Ending) (w' : World) : Prop :=
  ∃ q1 q3 q4 e1 e3 e4 bT bR, e = .returned (cpV q1 q3 q4 e1 e3 e4 bT L x) ∧ Sep B w0 w' (cpI q1 q3 q4 e1 e3 e4 bT bR L x X)
theorem CpP.cq {w0 : World} {B : Nat} {X : List It} {L : List P3} {x : Lx} {e : Ending} {w' : World} (h : CpP w0 B X L x L.length x.marks.length x.counts.length x.toks.length e w') : CqP w0 B X L x e w' := by
  obtain ⟨v1, bT, bR, v3, v4, rfl, hs⟩ := h
  obtain ⟨q4, e4, rfl⟩ := row_form hs.at
  obtain ⟨q3, e3, rfl⟩ := row_form hs.tl.at
  obtain ⟨q1, e1, rfl⟩ := row_form hs.tl.tl.tl.tl.at
  exact ⟨q1, q3, q4, e1, e3, e4, bT, bR, rfl, hs⟩
/-- Edit where nothing is refused. -/
structure EdR (w : World) (d : Df) (kl : List Int) (s t : ByteArray) (st en be bq : Nat) (q1 q3 q4 : Option Addr) (e1 e3 e4 bT bR : Nat) (cnt : Int) (w' : World) : Prop where
  sc : ScV w'.heap.size w' bq d kl t
  ct : Cnt (scL d kl s) (scL d kl t) (bl s) (bl t) st en be cnt
  sp : Sep w.heap.size w w' (cpI q1 q3 q4 e1 e3 e4 bT bR (scL d kl t) (scX d kl t) [])
end Go.Proofs.Ytemkppjdfjoipaa.I1.X
end
