import Derived.Test.YtmjojahkbjlcdaaDoorProg
import Derived.Test.YtmjojahkbjlcdaaDoorX3
import Derived.Test.YtmjojahkbjlcdaaDoorX4
import Derived.WalkKit
import Derived.WalkLawsBesides
import Derived.WalkSpells
import Derived.Outline
import Derived.Lib.Walk
import Derived.Lib.Hide
import Derived.RegionTactic
import Derived.LoopTactic
import Derived.Below
import Derived.IntWalk
import Derived.Deep.QuietTactic
import Derived.BigQuiet
import Derived.Test.YtmjojahkbjlcdaaDoorX34
namespace Go.Proofs.YtmjojahkbjlcdaaDoor
set_option linter.unusedSimpArgs false
set_option linter.unusedVariables false
set_option maxRecDepth 100000
open Go.RowKit

/- RegsRow: two patterns in brackets; the pieces. -/
def zT : RT := .mk 0 u0 []
/-- What Parse answers. -/
def prsR (l : List UInt8) : RT × Int × Int := if 256 < l.length then (zT, 0, 3) else match wholeF l with
  | .error q => (zT, (l.length - q.length : Nat), 50)
  | .ok t => if 16 < dep t then (zT, 0, 51) else (t, 0, 0)
def PP (t : RT) (m E : Int) (w : World) (e : Ending) (w' : World) : Prop := (∃ v, e = ret3 v m E ∧ RV (fun b => w.heap.size ≤ b ∧ b < w'.heap.size) w' t v) ∧ Below w.heap.size w w'
theorem PP.err {m E : Int} {w w' : World} {e : Ending} (h : e = ret3 zeroR m E ∧ Below w.heap.size w w') : PP zT m E w e w' :=
  ⟨⟨_, h.1, .leaf 0 u0 none 0⟩, h.2⟩
theorem prs_any (s : ByteArray) (hs : s.size ≤ 9223372036854775807) (w : World) : Calls Tryd.prog 21 #[.string s] w (PP (prsR s.data.toList).1 (prsR s.data.toList).2.1 (prsR s.data.toList).2.2 w) := by
  refine (parse_any5 s hs w).mono fun e w' k => ?_
  have hl : s.data.toList.length = s.size := by simp
  unfold ParseP at k
  unfold prsR
  rw [hl]
  by_cases h : 256 < s.size
  · rw [if_pos h] at k ⊢; exact PP.err k
  · rw [if_neg h] at k ⊢
    cases hc : wholeF s.data.toList with
    | error q => rw [hc] at k; exact PP.err k
    | ok t =>
      rw [hc] at k
      simp only at k ⊢
      by_cases hd : 16 < dep t
      · rw [if_pos hd] at k ⊢; exact PP.err k
      · rw [if_neg hd] at k ⊢; exact k
theorem prs_hid (s : ByteArray) (hs : s.size ≤ 9223372036854775807) {t : RT} {m E : Int} (h : prsR s.data.toList = (t, m, E)) : Hid (∀ w, Calls Tryd.prog 21 #[.string s] w (PP t m E w)) := Lib.hid fun w => by
  have := prs_any s hs w
  rwa [h] at this
/-- A pattern in a box of its own. -/
def PBox (b : Nat) (t : RT) (y : World) : Prop := ∃ (k : Int) (u : Nat → Int) (p : Option Addr) (n c : Nat), y.heap[b]? = some (.cells (nodeC k u (.slice p n c)) 27) ∧ RV (fun z => z < y.heap.size) y t (.agg (nodeC k u (.slice p n c)))
theorem PBox.up {b : Nat} {t : RT} {y z : World} (h : PBox b t y) (hb : Below y.heap.size y z) : PBox b t z := by
  obtain ⟨k, u, p, n, c, h1, h2⟩ := h
  exact ⟨k, u, p, n, c, (hb.block b (Array.getElem?_eq_some_iff.1 h1).1).trans h1, RV.mono (fun a ha => Nat.lt_of_lt_of_le ha hb.size) (fun a _ hlt => hb.block a hlt) h2⟩
theorem PBox.new {D : Nat → Prop} {t : RT} {y : World} {k : Int} {u : Nat → Int} {p : Option Addr} {n c : Nat} (hD : ∀ b, D b → b < y.heap.size) (h : RV D y t (.agg (nodeC k u (.slice p n c)))) : PBox y.heap.size t (y.alloc (.cells (nodeC k u (.slice p n c)) 27)) := by
  refine ⟨k, u, p, n, c, heap_alloc_last y _, RV.mono (fun b hb => by have := hD b hb; simp; omega) (fun b _ hlt => ?_) h⟩
  exact ((Below.refl y.heap.size y).alloc (Nat.le_refl _) (.cells (nodeC k u (.slice p n c)) 27)).block b hlt
theorem match_ok {t : RT} (hc : checkE t = 0) {x : List UInt8} (hx : x.length ≤ 65536) : mtP t x = (matB t x, 0) := by
  unfold mtP
  rw [if_neg (by omega), if_neg (by omega)]
theorem mat_hid {t : RT} (hc : checkE t = 0) (hok : okT t) {x : List UInt8} (hx : x.length ≤ 65536) {D : Nat → Prop} {v : Value} {y : World} (hD : ∀ b, D b → b < y.heap.size) (hw0 : 0 < y.heap.size) (hT : Tb y) (h : RV D y t v) :
    Hid (∀ z, Below y.heap.size y z → Calls Tryd.prog 27 #[v, .string (bs x)] z fun e w' => e = .returned (.tuple #[.bool (matB t x), .int .i64 0]) ∧ Below z.heap.size z w') := Lib.hid fun z hb => by
  have hs := (checkE_ok hc).2.1
  have hw := wid_sz t
  have := matches_any (w := z) (D := D) x (fun b hd => Nat.lt_of_lt_of_le (hD b hd) hb.size) (by omega) hok (by have := hb.size; omega) (hT.mono (hb.block 0 hw0)) (RV.mono (fun b h => h) (fun b hb' _ => hb.block b (hD b hb')) h)
  rwa [match_ok hc hx] at this
theorem bs_take (x : List UInt8) (k : Nat) : (bs x).extract 0 k = bs (x.take k) := by
  apply ByteArray.ext
  simp [bs, ByteArray.data_extract]
theorem bs_drop (x : List UInt8) (k : Nat) : (bs x).extract k (bs x).size = bs (x.drop k) := by
  apply ByteArray.ext
  rw [ByteArray.data_extract]
  apply Array.ext'
  rw [Array.toList_extract]
  have e : (bs x).size = x.length := rfl
  have e2 : (bs x).data.toList = x := rfl
  rw [e, e2]
  simp [bs, List.extract]
  exact List.take_of_length_le (by simp)
/-- Parted ahead of k. -/
def pty (t1 t2 : RT) (x : List UInt8) : Nat → Bool
  | 0 => false
  | k + 1 => pty t1 t2 x k || (matB t1 (x.take k) && matB t2 (x.drop k))
theorem pty_true {t1 t2 : RT} {x : List UInt8} : ∀ k, pty t1 t2 x k = true ↔ ∃ i, i < k ∧ matB t1 (x.take i) = true ∧ matB t2 (x.drop i) = true
  | 0 => by simp [pty]
  | k + 1 => by
    rw [pty, Bool.or_eq_true, Bool.and_eq_true, pty_true k]
    constructor
    · rintro (⟨i, h, g⟩ | g)
      · exact ⟨i, by omega, g⟩
      · exact ⟨k, by omega, g⟩
    · rintro ⟨i, h, g⟩
      by_cases e : i = k
      · subst e; exact .inr g
      · exact .inl ⟨i, by omega, g⟩
/-- What was read of short texts may be. -/
theorem gd_check {l : List UInt8} {t : RT} (h : wholeF l = .ok t) (hl : l.length ≤ 200) (hd : dep t ≤ 16) : checkE t = 0 ∧ okT t := by
  have g := gd_whole h
  have hs := wholeF_sz h
  refine ⟨?_, g.2⟩
  unfold checkE
  rw [if_neg (by omega), if_neg (by omega), if_pos g.1]
theorem prs_ok {l : List UInt8} {t : RT} {m : Int} (h : prsR l = (t, m, 0)) : wholeF l = .ok t ∧ dep t ≤ 16 ∧ l.length ≤ 256 ∧ m = 0 := by
  unfold prsR at h
  by_cases hl : 256 < l.length
  · rw [if_pos hl] at h; simp at h
  · rw [if_neg hl] at h
    cases hc : wholeF l with
    | error q => rw [hc] at h; simp at h
    | ok t' =>
      rw [hc] at h
      simp only at h
      by_cases hd : 16 < dep t'
      · rw [if_pos hd] at h; simp at h
      · rw [if_neg hd] at h
        cases h
        exact ⟨rfl, by omega, by omega, rfl⟩
theorem prs_of {l : List UInt8} {t : RT} (h : wholeF l = .ok t) (hl : l.length ≤ 256) : prsR l = if 16 < dep t then (zT, 0, 51) else (t, 0, 0) := by
  unfold prsR
  rw [if_neg (by omega), h]
end Go.Proofs.YtmjojahkbjlcdaaDoor
