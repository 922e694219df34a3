/- Texts of package regs, one behind the other. -/
import Derived.WalkKit
import Derived.Below
import Derived.Laws.AppendOwn
import Derived.Laws.OwnMore
import Derived.Lib.Hide
import Derived.Lib.Walk
import Derived.Deep.MidRow
import Derived.Deep.WholeRow
section
/- Packages dfa, mini, munch. -/
namespace Go.Proofs.Ytemkppjdfjoipaa
set_option linter.unusedSimpArgs false
set_option linter.unusedVariables false
set_option maxRecDepth 100000
open Go.RowKit
/- Automata without choice: plain. -/
/-- An automaton. -/
structure Df where
  st : Int
  cl : Nat → Nat
  nx : List (List Int)
  rl : List Int
def row0 (d : Df) : List Int := match d.nx with
  | [] => []
  | r :: _ => r
def clsOk (d : Df) : Bool := (List.range 256).all fun i => decide (d.cl i < (row0 d).length)
def rowOk (k m : Nat) (r : List Int) : Bool := decide (r.length = m) && r.all fun x => decide (x < (k : Int))
def rowsOk (d : Df) : Bool := d.nx.all (rowOk d.nx.length (row0 d).length)
def rlsOk (d : Df) : Bool := d.rl.all fun r => decide (r < 48)
def stOk (d : Df) : Bool := decide (0 ≤ d.st) && decide (d.st < (d.nx.length : Int))
def mayD (d : Df) : Bool := decide (d.nx.length = d.rl.length) && (stOk d && ((decide ((row0 d).length ≤ 256) && clsOk d) && (rowsOk d && rlsOk d)))
def tooD (d : Df) : Bool := decide (2048 < d.nx.length) || decide (2048 < d.rl.length)
/-- Check's answer. -/
def chkD (d : Df) : Int := if tooD d = true then 3 else if mayD d = true then 0 else 2
/-- Where a byte leads from a state; -1: nowhere. -/
def cellAt (d : Df) (s c : Nat) : Int := match d.nx[s]? with
  | some r => r.getD c (-1)
  | none => -1
def goD (d : Df) (s : Int) (b : Nat) : Int := if s < 0 then -1 else if cellAt d s.toNat (d.cl b) < 0 then -1 else cellAt d s.toNat (d.cl b)
def walkD (d : Df) : Int → List Nat → Int
  | s, [] => s
  | s, b :: r => walkD d (goD d s b) r
def rlAt (d : Df) (s : Int) : Int := if s < 0 then -1 else if d.rl.getD s.toNat (-1) < 0 then -1 else d.rl.getD s.toNat (-1)
structure MayD (d : Df) : Prop where
  ln : d.nx.length = d.rl.length
  s0 : 0 ≤ d.st
  s1 : d.st < (d.nx.length : Int)
  m1 : (row0 d).length ≤ 256
  cl : ∀ i, i < 256 → d.cl i < (row0 d).length
  rw : ∀ r ∈ d.nx, r.length = (row0 d).length ∧ ∀ x ∈ r, x < (d.nx.length : Int)
  rl : ∀ r ∈ d.rl, r < 48
  big : d.nx.length ≤ 2048
theorem chk_may {d : Df} (h : chkD d = 0) : MayD d := by
  unfold chkD at h
  by_cases h1 : tooD d = true
  · rw [if_pos h1] at h; cases h
  · rw [if_neg h1] at h
    by_cases h2 : mayD d = true
    · unfold mayD stOk clsOk rowsOk rowOk rlsOk at h2
      simp only [Bool.and_eq_true, decide_eq_true_eq, List.all_eq_true, List.mem_range] at h2
      obtain ⟨a1, ⟨a2, a3⟩, ⟨a4, a5⟩, a6, a7⟩ := h2
      unfold tooD at h1
      simp only [Bool.or_eq_true, decide_eq_true_eq, not_or] at h1
      exact ⟨a1, a2, a3, a4, a5, a6, a7, by omega⟩
    · rw [if_neg h2] at h; cases h
theorem walkD_app (d : Df) : ∀ (x y : List Nat) (s : Int), walkD d s (x ++ y) = walkD d (walkD d s x) y
  | [], y, s => rfl
  | b :: x, y, s => by rw [List.cons_append, walkD, walkD, walkD_app d x y]
end Go.Proofs.Ytemkppjdfjoipaa
end
section
/- Packages dfa, mini, munch. -/
namespace Go.Proofs.Ytemkppjdfjoipaa
set_option linter.unusedSimpArgs false
set_option linter.unusedVariables false
set_option maxRecDepth 100000
open Go.RowKit
/- Automata without choice in memory. -/
theorem blk_lt {w : World} {b o : Nat} {v : Value} (h : w.cell? ⟨b, o, none⟩ = some v) : b < w.heap.size := World.block_lt_of_cell? w _ h
theorem cell_same {w w' : World} {b : Nat} (h : w'.heap[b]? = w.heap[b]?) (o : Nat) : w'.cell? ⟨b, o, none⟩ = w.cell? ⟨b, o, none⟩ := by
  unfold World.cell?; simp only [h]
/-- A list of numbers. -/
def IV (D : Nat → Prop) (w : World) (l : List Int) (sl : Value) : Prop := ∃ p c, sl = .slice p l.length c ∧ (l ≠ [] → ∃ b o, p = some ⟨b, o, none⟩ ∧ D b ∧ ∀ i (h : i < l.length), w.cell? ⟨b, o + i, none⟩ = some (.int .i64 l[i]))
theorem IV.mono {D E : Nat → Prop} {w w' : World} (hE : ∀ b, D b → E b) (hw : ∀ b, D b → b < w.heap.size → w'.heap[b]? = w.heap[b]?) {l : List Int} {sl : Value} (h : IV D w l sl) : IV E w' l sl := by
  obtain ⟨p, c, rfl, h⟩ := h
  refine ⟨p, c, rfl, fun hn => ?_⟩
  obtain ⟨b, o, hp, hD, hc⟩ := h hn
  refine ⟨b, o, hp, hE b hD, fun i hi => ?_⟩
  rw [← hc i hi]
  exact cell_same (hw b hD (blk_lt (hc i hi))) _
theorem IV.nil (D : Nat → Prop) (w : World) (p : Option Addr) (c : Nat) : IV D w [] (.slice p 0 c) := ⟨p, c, rfl, fun h => absurd rfl h⟩
/-- A list of lists of numbers. -/
def NV (D : Nat → Prop) (w : World) (ls : List (List Int)) (sl : Value) : Prop := ∃ p c, sl = .slice p ls.length c ∧ (ls ≠ [] → ∃ b o, p = some ⟨b, o, none⟩ ∧ D b ∧ ∀ i (h : i < ls.length), ∃ q f, IV D w ls[i] (.slice q ls[i].length f) ∧ w.cell? ⟨b, o + i, none⟩ = some (.slice q ls[i].length f))
theorem NV.mono {D E : Nat → Prop} {w w' : World} (hE : ∀ b, D b → E b) (hw : ∀ b, D b → b < w.heap.size → w'.heap[b]? = w.heap[b]?) {ls : List (List Int)} {sl : Value} (h : NV D w ls sl) : NV E w' ls sl := by
  obtain ⟨p, c, rfl, h⟩ := h
  refine ⟨p, c, rfl, fun hn => ?_⟩
  obtain ⟨b, o, hp, hD, hc⟩ := h hn
  refine ⟨b, o, hp, hE b hD, fun i hi => ?_⟩
  obtain ⟨q, f, h1, h2⟩ := hc i hi
  refine ⟨q, f, h1.mono hE hw, ?_⟩
  rw [← h2]
  exact cell_same (hw b hD (blk_lt h2)) _
/-- An automaton's cells. -/
structure DC (d : Df) (ds : Array Value) (p q : Option Addr) (c f : Nat) : Prop where
  sz : ds.size = 259
  one : ∀ v ∈ ds, v.oneCell' = true
  st : ds[0]? = some (.int .i64 d.st)
  cl : ∀ i, i < 256 → ds[1 + i]? = some (.int .u8 (d.cl i : Nat)) ∧ d.cl i < 256
  nx : ds[257]? = some (.slice p d.nx.length c)
  rl : ds[258]? = some (.slice q d.rl.length f)
/-- What it leads «to». -/
structure DM (D : Nat → Prop) (w : World) (d : Df) (p q : Option Addr) (c f : Nat) : Prop where
  nx : NV D w d.nx (.slice p d.nx.length c)
  rl : IV D w d.rl (.slice q d.rl.length f)
  lt : ∀ b, D b → b < w.heap.size
  l1 : d.nx.length ≤ 9223372036854775806
  l2 : d.rl.length ≤ 9223372036854775806
  l3 : ∀ r ∈ d.nx, r.length ≤ 9223372036854775806
theorem DM.up {D : Nat → Prop} {w w' : World} {d : Df} {p q : Option Addr} {c f : Nat} (h : DM D w d p q c f) (hb : Below w.heap.size w w') : DM D w' d p q c f :=
  ⟨h.nx.mono (fun b h => h) (fun b hd _ => hb.block b (h.lt b hd)), h.rl.mono (fun b h => h) (fun b hd _ => hb.block b (h.lt b hd)), fun b hd => Nat.lt_of_lt_of_le (h.lt b hd) hb.size, h.l1, h.l2, h.l3⟩
/-- In a box. -/
def BX (w : World) (b : Nat) (ds : Array Value) : Prop := w.heap[b]? = some (.cells ds 61 (0, 0))
theorem BX.lt {w : World} {b : Nat} {ds : Array Value} (h : BX w b ds) : b < w.heap.size := (Array.getElem?_eq_some_iff.1 h).1
theorem BX.up {w w' : World} {b : Nat} {ds : Array Value} (h : BX w b ds) (hb : Below w.heap.size w w') : BX w' b ds := (hb.block b h.lt).trans h
theorem BX.cell {w : World} {b : Nat} {ds : Array Value} (h : BX w b ds) (j : Nat) : w.cell? ⟨b, j, none⟩ = ds[j]? := cell_of_row w b j _ 61 (0, 0) h
theorem BX.new (w : World) (ds : Array Value) : BX (w.alloc (.cells ds 61)) w.heap.size ds := heap_alloc_last w _
end Go.Proofs.Ytemkppjdfjoipaa
end
section
/- Packages dfa, mini, munch. -/
namespace Go.Proofs.Ytemkppjdfjoipaa
set_option linter.unusedSimpArgs false
set_option linter.unusedVariables false
set_option maxRecDepth 100000
open Go.RowKit
/- What is found of what is left: plain. -/
def onRow (r : List Int) : Bool := r.any fun x => decide (0 ≤ x)
def onD (d : Df) (s : Int) : Bool := match d.nx[s.toNat]? with
  | some r => onRow r
  | none => false
/-- munch.longest, from a state on: rule, length, looked at. -/
def mL (d : Df) : Int → Nat → Int → Nat → List Nat → Int × Nat × Nat
  | s, k, r, n, [] => (r, n, if (k == 0 || onD d s) = true then k + 1 else k)
  | s, k, r, n, b :: t =>
    if 0 ≤ cellAt d s.toNat (d.cl b) then
      (if 0 ≤ d.rl.getD (cellAt d s.toNat (d.cl b)).toNat (-1) then mL d (cellAt d s.toNat (d.cl b)) (k + 1) (d.rl.getD (cellAt d s.toNat (d.cl b)).toNat (-1)) (k + 1) t
       else mL d (cellAt d s.toNat (d.cl b)) (k + 1) r n t)
    else (r, n, if (k == 0 || onD d s) = true then k + 1 else k)
def stopAt (d : Df) (l : List Nat) (n : Nat) : Bool := decide (walkD d d.st (l.take n) < 0) || !onD d (walkD d d.st (l.take n))
def lookR (d : Df) (l : List Nat) : Nat → Nat → Nat
  | 0, n => n
  | m + 1, n => if stopAt d l n = true then n else lookR d l m (n + 1)
def lookF (d : Df) (l : List Nat) : Nat := lookR d l l.length 1
def longR (d : Df) (l : List Nat) : Nat → Int × Nat
  | 0 => (-1, 0)
  | n + 1 => if 0 ≤ rlAt d (walkD d d.st (l.take (n + 1))) then (rlAt d (walkD d d.st (l.take (n + 1))), n + 1) else longR d l n
/-- The document's answer. -/
def ofF (d : Df) (l : List Nat) : Int × Nat × Nat := ((longR d (l.take (min (lookF d l) l.length)) (min (lookF d l) l.length)).1, (longR d (l.take (min (lookF d l) l.length)) (min (lookF d l) l.length)).2, lookF d l)
theorem goD_cell {d : Df} {s : Int} {b : Nat} (h : 0 ≤ s) (h2 : 0 ≤ cellAt d s.toNat (d.cl b)) : goD d s b = cellAt d s.toNat (d.cl b) := by
  unfold goD; rw [if_neg (by omega), if_neg (by omega)]
theorem goD_none {d : Df} {s : Int} {b : Nat} (h2 : ¬ 0 ≤ cellAt d s.toNat (d.cl b)) : goD d s b = -1 := by
  unfold goD; split
  · rfl
  · rw [if_pos (by omega)]
theorem cell_on {d : Df} {s : Nat} {c : Nat} (h : 0 ≤ cellAt d s c) : ∃ r, d.nx[s]? = some r ∧ onRow r = true := by
  unfold cellAt at h
  cases hs : d.nx[s]? with
  | none => rw [hs] at h; simp at h
  | some r =>
    rw [hs] at h
    refine ⟨r, rfl, ?_⟩
    simp only [List.getD_eq_getElem?_getD] at h
    cases hc : r[c]? with
    | none => rw [hc] at h; simp at h
    | some x =>
      rw [hc] at h
      exact List.any_eq_true.2 ⟨x, List.mem_of_getElem? hc, by simpa using h⟩
theorem walkD_snoc (d : Df) (x : List Nat) (b : Nat) (s : Int) : walkD d s (x ++ [b]) = goD d (walkD d s x) b := by rw [walkD_app]; rfl
theorem take_snoc {l : List Nat} {k b : Nat} {t : List Nat} (h : l.drop k = b :: t) : l.take (k + 1) = l.take k ++ [b] ∧ l.drop (k + 1) = t ∧ k < l.length := by
  have hk : k < l.length := by
    by_cases hk : k < l.length
    · exact hk
    · rw [List.drop_eq_nil_of_le (by omega)] at h; cases h
  rw [List.drop_eq_getElem_cons hk] at h
  injection h with h1 h2
  exact ⟨by rw [List.take_add_one, List.getElem?_eq_getElem hk, ← h1]; rfl, h2, hk⟩
theorem lookR_skip (d : Df) (l : List Nat) : ∀ (m n j : Nat), n ≤ j → j ≤ n + m → (∀ i, n ≤ i → i < j → stopAt d l i = false) → lookR d l m n = lookR d l (n + m - j) j
  | m, n, j, h1, h2, h3 => by
    by_cases e : n = j
    · subst e; rw [show n + m - n = m by omega]
    · cases m with
      | zero => omega
      | succ m =>
        rw [lookR, h3 n (by omega) (by omega)]
        simp only [Bool.false_eq_true, if_false]
        rw [lookR_skip d l m (n + 1) j (by omega) (by omega) (fun i hi hj => h3 i (by omega) hj), show n + 1 + m - j = n + (m + 1) - j by omega]
theorem longR_take (d : Df) (l : List Nat) (k : Nat) : ∀ n, n ≤ k → longR d (l.take k) n = longR d l n
  | 0, _ => rfl
  | n + 1, h => by rw [longR, longR, List.take_take, show min (n + 1) k = n + 1 by omega, longR_take d l k n (by omega)]
/-- What has come so far. -/
structure MLI (d : Df) (l : List Nat) (s : Int) (k : Nat) (r : Int) (n : Nat) : Prop where
  hs : walkD d d.st (l.take k) = s
  h0 : 0 ≤ s
  hl : (r, n) = longR d l k
  hk : k ≤ l.length
  go : ∀ i, 1 ≤ i → i < k → stopAt d l i = false
theorem mL_end {d : Df} {l : List Nat} {s : Int} {k : Nat} {r : Int} {n : Nat} (h : MLI d l s k r n) (hne : l ≠ []) (hend : l.drop k = [] ∨ ∃ b t, l.drop k = b :: t ∧ ¬ 0 ≤ cellAt d s.toNat (d.cl b)) :
    (r, n, if (k == 0 || onD d s) = true then k + 1 else k) = ofF d l := by
  have hlen : 0 < l.length := List.length_pos_iff.2 hne
  have hon : onD d s = true → k + 1 = lookF d l ∨ k = 0 := fun ho => by
    by_cases hk0 : k = 0
    · exact .inr hk0
    · left
      unfold lookF
      have hsk : stopAt d l k = false := by
        unfold stopAt; rw [h.hs, ho]; simp; exact h.h0
      rcases hend with he | ⟨b, t, he, hc⟩
      · have : l.length ≤ k := by simpa using he
        have hkl : k = l.length := by have := h.hk; omega
        rw [lookR_skip d l l.length 1 (k + 1) (by omega) (by omega) (fun i h1 h2 => by
          by_cases hik : i < k
          · exact h.go i h1 hik
          · obtain rfl : i = k := by omega
            exact hsk), show 1 + l.length - (k + 1) = 0 by omega, lookR]
      · obtain ⟨h1, h2, h3⟩ := take_snoc he
        rw [lookR_skip d l l.length 1 (k + 1) (by omega) (by omega) (fun i h1 h2 => by
          by_cases hik : i < k
          · exact h.go i h1 hik
          · obtain rfl : i = k := by omega
            exact hsk)]
        obtain ⟨m, hm⟩ : ∃ m, 1 + l.length - (k + 1) = m + 1 := ⟨l.length - k - 1, by omega⟩
        rw [hm, lookR]
        have : stopAt d l (k + 1) = true := by
          unfold stopAt; rw [h1, walkD_snoc, h.hs, goD_none hc]; rfl
        rw [if_pos this]
  have hoff : onD d s = false → k ≠ 0 → k = lookF d l := fun ho hk0 => by
    unfold lookF
    rw [lookR_skip d l l.length 1 k (by omega) (by have := h.hk; omega) (fun i h1 h2 => h.go i h1 h2)]
    obtain ⟨m, hm⟩ : ∃ m, 1 + l.length - k = m + 1 := ⟨l.length - k, by have := h.hk; omega⟩
    rw [hm, lookR]
    have : stopAt d l k = true := by unfold stopAt; rw [h.hs, ho]; simp
    rw [if_pos this]
  have hzero : k = 0 → 1 = lookF d l := fun hk0 => by
    subst hk0
    unfold lookF
    obtain ⟨m, hm⟩ : ∃ m, l.length = m + 1 := ⟨l.length - 1, by omega⟩
    rw [hm, lookR]
    have : stopAt d l 1 = true := by
      rcases hend with he | ⟨b, t, he, hc⟩
      · simp at he; exact absurd he hne
      · obtain ⟨h1, h2, h3⟩ := take_snoc he
        unfold stopAt; rw [h1, walkD_snoc, h.hs, goD_none hc]; rfl
    rw [if_pos this]
  have hlk : (if (k == 0 || onD d s) = true then k + 1 else k) = lookF d l := by
    by_cases hk0 : k = 0
    · rw [← hzero hk0]; simp [hk0]
    · cases ho : onD d s with
      | true => rcases hon ho with h1 | h1
                · simpa using h1
                · exact absurd h1 hk0
      | false => rw [← hoff ho hk0]; simp [hk0]
  -- nothing is told of one byte more
  have hmax : longR d l (min (lookF d l) l.length) = longR d l k := by
    rw [← hlk]
    by_cases hb : (k == 0 || onD d s) = true
    · rw [if_pos hb]
      rcases hend with he | ⟨b, t, he, hc⟩
      · have : l.length ≤ k := by simpa using he
        rw [show min (k + 1) l.length = k by have := h.hk; omega]
      · obtain ⟨h1, h2, h3⟩ := take_snoc he
        rw [show min (k + 1) l.length = k + 1 by omega, longR]
        have : rlAt d (walkD d d.st (l.take (k + 1))) = -1 := by rw [h1, walkD_snoc, h.hs, goD_none hc]; rfl
        rw [this, if_neg (by omega)]
    · rw [if_neg hb, show min k l.length = k by have := h.hk; omega]
  unfold ofF
  rw [longR_take d l _ _ (Nat.le_refl _), hmax, ← h.hl, hlk]
theorem mL_ofF {d : Df} (hd : MayD d) {l : List Nat} (hne : l ≠ []) : ∀ (t : List Nat) (s : Int) (k : Nat) (r : Int) (n : Nat), MLI d l s k r n → l.drop k = t → mL d s k r n t = ofF d l
  | [], s, k, r, n, h, ht => by rw [mL]; exact mL_end h hne (.inl ht)
  | b :: t, s, k, r, n, h, ht => by
    obtain ⟨h1, h2, h3⟩ := take_snoc ht
    rw [mL]
    by_cases hc : 0 ≤ cellAt d s.toNat (d.cl b)
    · rw [if_pos hc]
      have hw : walkD d d.st (l.take (k + 1)) = cellAt d s.toNat (d.cl b) := by rw [h1, walkD_snoc, h.hs, goD_cell h.h0 hc]
      have hgo : ∀ i, 1 ≤ i → i < k + 1 → stopAt d l i = false := fun i hi1 hi2 => by
        by_cases hik : i < k
        · exact h.go i hi1 hik
        · obtain rfl : i = k := by omega
          obtain ⟨r', hr1, hr2⟩ := cell_on hc
          have : onD d s = true := by unfold onD; rw [hr1]; exact hr2
          unfold stopAt; rw [h.hs, this]; simp; exact h.h0
      have hrl : rlAt d (cellAt d s.toNat (d.cl b)) = if d.rl.getD (cellAt d s.toNat (d.cl b)).toNat (-1) < 0 then -1 else d.rl.getD (cellAt d s.toNat (d.cl b)).toNat (-1) := by
        unfold rlAt; rw [if_neg (by omega)]
      by_cases hr : 0 ≤ d.rl.getD (cellAt d s.toNat (d.cl b)).toNat (-1)
      · rw [if_pos hr]
        refine mL_ofF hd hne t _ _ _ _ ⟨hw, hc, ?_, by omega, hgo⟩ h2
        have e2 : rlAt d (cellAt d s.toNat (d.cl b)) = d.rl.getD (cellAt d s.toNat (d.cl b)).toNat (-1) := by rw [hrl, if_neg (by omega)]
        rw [longR, hw, e2, if_pos hr]
      · rw [if_neg hr]
        refine mL_ofF hd hne t _ _ _ _ ⟨hw, hc, ?_, by omega, hgo⟩ h2
        have e2 : rlAt d (cellAt d s.toNat (d.cl b)) = -1 := by rw [hrl, if_pos (by omega)]
        rw [longR, hw, e2, if_neg (by omega), ← h.hl]
    · rw [if_neg hc]
      exact mL_end h hne (.inr ⟨b, t, ht, hc⟩)
/-- munch.longest's answer is the document's. -/
theorem munch_doc {d : Df} (hd : MayD d) {l : List Nat} (hne : l ≠ []) : mL d d.st 0 (-1) 0 l = ofF d l :=
  mL_ofF hd hne l _ _ _ _ ⟨rfl, hd.s0, rfl, Nat.zero_le _, fun i h1 h2 => by omega⟩ rfl
end Go.Proofs.Ytemkppjdfjoipaa
end
