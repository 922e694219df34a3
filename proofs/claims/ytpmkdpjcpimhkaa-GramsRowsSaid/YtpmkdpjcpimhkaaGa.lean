/- Package grams. -/
import Derived.Deep.SlicePairs
import Derived.Deep.Slices
import Derived.Laws.IdiomArrays
import Derived.OpenShut
import Derived.WideBlind
import Derived.Great.BuildSlice
import Derived.WalkKit
import Derived.Maps.OwnSet
import Derived.Maps.OwnOps
import Derived.Maps.Own
import Derived.DeepKeys5
import Derived.BigFrame
import Derived.WalkMore
import Derived.ScopeJumps
import Derived.StillTailTactics
import Derived.Stop.BytesEq
import Derived.WalkLawsBesides
import Derived.WalkSpells
import Derived.Outline
import Derived.Lib.Walk
import Derived.Lib.Hide
import Derived.Lib.Slices
import Derived.Lib.Strings
import Derived.RegionTactic
import Derived.LoopTactic
import Derived.Below
import Derived.IntWalk
import Derived.Deep.QuietTactic
import Derived.BigQuiet
import Derived.Deep.MidRow
import Derived.Maps.AppendAt
import Derived.Laws.Rows
import Derived.Laws.Tables
import Derived.Deep.WholeRow
import Derived.Deep.Cut
import Derived.Deep.CutRange
import Derived.Lib.SliceRun
import Derived.Laws.MakeOwn
import Derived.Deep.RegionLaw
import Derived.Deep.RegionLawGrows
import Derived.Deep.RegionHeld3
import Derived.RegionCalls
import Derived.Deep.RegionWith
import Derived.Deep.Light
import Derived.Laws.CopyOwn
import Derived.Laws.ResultCell
namespace Go.Proofs.Ytpmkdpjcpimhkaa
set_option linter.unusedSimpArgs false
set_option linter.unusedVariables false
set_option maxRecDepth 100000
open Go.RowKit
/- Package grams, plain: a grammar; what its symbols become; rounds that come to an end. -/
structure Pr where
  hd : Int
  bd : List Int
  rt : Bool
structure Gr where
  t : Int
  s : Int
  st : Int
  ps : List Pr
inductive Come (g : Gr) : Int → Prop
  | st : Come g g.st
  | go {p : Pr} {x : Int} : p ∈ g.ps → Come g p.hd → x ∈ p.bd → Come g x
inductive Good (g : Gr) : Int → Prop
  | tm {x : Int} : 0 ≤ x → x < g.t → Good g x
  | go {p : Pr} : p ∈ g.ps → (∀ x ∈ p.bd, Good g x) → Good g p.hd
inductive Rnd (g : Gr) : Int → Int → Prop
  | one {p : Pr} {b : Int} : p ∈ g.ps → p.bd = [b] → Rnd g p.hd b
  | go {p : Pr} {c b : Int} : p ∈ g.ps → p.bd = [c] → Rnd g c b → Rnd g p.hd b
inductive Beg (g : Gr) : Int → Int → Prop
  | tm {x : Int} : 0 ≤ x → x < g.t → Beg g x x
  | go {p : Pr} {y x : Int} {l : List Int} : p ∈ g.ps → p.bd = y :: l → Beg g y x → Beg g p.hd x
inductive Fol (g : Gr) : Int → Int → Prop
  | fin : Fol g g.st g.t
  | nx {p : Pr} {a b x : Int} {l1 l2 : List Int} : p ∈ g.ps → p.bd = l1 ++ a :: b :: l2 → Beg g b x → Fol g a x
  | last {p : Pr} {a x : Int} {l1 : List Int} : p ∈ g.ps → p.bd = l1 ++ [a] → Fol g p.hd x → Fol g a x
structure NumOk (g : Gr) : Prop where
  t1 : 1 ≤ g.t
  t2 : g.t ≤ 32
  s1 : g.t < g.s
  s2 : g.s ≤ 64
  st1 : g.t ≤ g.st
  st2 : g.st < g.s
  n1 : 1 ≤ g.ps.length
  n2 : g.ps.length ≤ 64
  hd : ∀ p ∈ g.ps, g.t ≤ p.hd ∧ p.hd < g.s
  bd : ∀ p ∈ g.ps, ∀ x ∈ p.bd, 0 ≤ x ∧ x < g.s
def Twins (l : List Pr) : Prop := ¬ l.Pairwise (fun p q => ¬ (p.hd = q.hd ∧ p.bd = q.bd))
structure GrOk (g : Gr) : Prop where
  nm : NumOk g
  tw : ¬ Twins g.ps
  lg : ∀ p ∈ g.ps, p.bd.length ≤ 8
  ne : ∀ p ∈ g.ps, p.bd ≠ []
  cm : ∀ x, g.t ≤ x → x < g.s → Come g x
  gd : ∀ x, g.t ≤ x → x < g.s → Good g x
  rd : ∀ x, g.t ≤ x → x < g.s → ¬ Rnd g x x
open Classical in
/-- What Check says. -/
noncomputable def chk (g : Gr) : Int :=
  if ¬ NumOk g ∨ Twins g.ps then 2 else if ∃ p ∈ g.ps, 8 < p.bd.length then 3 else if ∃ p ∈ g.ps, p.bd = [] then 130
  else if ¬ ∀ x, g.t ≤ x → x < g.s → Come g x ∧ Good g x then 131 else if ∃ x, g.t ≤ x ∧ x < g.s ∧ Rnd g x x then 132 else 0
theorem chk_ok (g : Gr) : chk g = 0 ↔ GrOk g := by
  unfold chk
  constructor
  · intro h
    split at h
    · simp at h
    split at h
    · simp at h
    split at h
    · simp at h
    split at h
    · simp at h
    split at h
    · simp at h
    rename_i h1 h2 h3 h4 h5
    rw [not_or, Classical.not_not] at h1
    rw [Classical.not_not] at h4
    exact ⟨h1.1, h1.2, fun p hp => Nat.le_of_not_lt fun h => h2 ⟨p, hp, h⟩, fun p hp h => h3 ⟨p, hp, h⟩, fun x a b => (h4 x a b).1, fun x a b => (h4 x a b).2, fun x a b h => h5 ⟨x, a, b, h⟩⟩
  · intro h
    rw [if_neg (by rw [not_or, Classical.not_not]; exact ⟨h.nm, h.tw⟩), if_neg (by rintro ⟨p, hp, h1⟩; have := h.lg p hp; omega), if_neg (by rintro ⟨p, hp, h1⟩; exact h.ne p hp h1), if_neg (by rw [Classical.not_not]; exact fun x a b => ⟨h.cm x a b, h.gd x a b⟩), if_neg (by rintro ⟨x, a, b, h1⟩; exact h.rd x a b h1)]
/- Going over again and again. -/
def it {α : Type} (F : α → α) : Nat → α → α
  | 0, x => x
  | n + 1, x => it F n (F x)
theorem it_succ {α : Type} (F : α → α) : ∀ (n : Nat) (x : α), it F (n + 1) x = F (it F n x)
  | 0, x => rfl
  | n + 1, x => by rw [it, it_succ F n (F x), it]
theorem it_inv {α : Type} {F : α → α} {P : α → Prop} (h : ∀ x, P x → P (F x)) : ∀ (n : Nat) (x : α), P x → P (it F n x)
  | 0, x, hx => hx
  | n + 1, x, hx => it_inv h n (F x) (h x hx)
theorem it_same {α : Type} {F : α → α} {x : α} (h : F x = x) : ∀ n, it F n x = x
  | 0 => rfl
  | n + 1 => by rw [it, h, it_same h n]
theorem it_fix {α : Type} {F : α → α} (P : α → Prop) (μ : α → Nat) (N : Nat) (hP : ∀ x, P x → P (F x)) (hm : ∀ x, P x → F x = x ∨ μ x < μ (F x)) (hN : ∀ x, P x → μ x ≤ N) : ∀ (n : Nat) (x : α), P x → N ≤ n + μ x → F (it F n x) = it F n x
  | 0, x, hx, h => by
    rcases hm x hx with e | e
    · exact e
    · have := hN _ (hP x hx); omega
  | n + 1, x, hx, h => by
    rw [it]
    rcases hm x hx with e | e
    · rw [e, it_same e, e]
    · exact it_fix P μ N hP hm hN n (F x) (hP x hx) (by omega)
/- Clauses over flags. -/
abbrev Cl := Nat × List Nat
def cl1 (o : List Bool) (p : Cl) : List Bool := o.set p.1 (o.getD p.1 false || p.2.all fun x => o.getD x false)
def stH (ops : List Cl) (o : List Bool) : List Bool := ops.foldl cl1 o
inductive Lh (ops : List Cl) (o0 : List Bool) : Nat → Prop
  | base {x : Nat} : o0.getD x false = true → Lh ops o0 x
  | go {p : Cl} : p ∈ ops → (∀ x ∈ p.2, Lh ops o0 x) → Lh ops o0 p.1
theorem cl1_len (o : List Bool) (p : Cl) : (cl1 o p).length = o.length := by simp [cl1]
theorem stH_len : ∀ (ops : List Cl) (o : List Bool), (stH ops o).length = o.length
  | [], o => rfl
  | p :: ops, o => by rw [stH, List.foldl_cons]; exact (stH_len ops _).trans (cl1_len o p)
theorem getD_set (o : List Bool) (k j : Nat) (b : Bool) : (o.set k b).getD j false = if k = j ∧ j < o.length then b else o.getD j false := by
  simp only [List.getD_eq_getElem?_getD, List.getElem?_set]
  by_cases h : k = j
  · subst h
    by_cases h2 : k < o.length
    · simp [h2]
    · simp [h2]
  · simp [h]
theorem cnt_set' : ∀ (l : List Bool) (s : Nat), s < l.length → l.getD s false = false → (l.set s true).countP id = l.countP id + 1
  | [], s, h, _ => by simp at h
  | b :: l, 0, _, h => by
    have hb : b = false := by simpa using h
    subst hb
    simp [List.countP_cons]
  | b :: l, s + 1, h, h2 => by
    have := cnt_set' l s (by simpa using h) (by simpa using h2)
    simp only [List.set_cons_succ, List.countP_cons, this]; omega
theorem cl1_cases (o : List Bool) (p : Cl) : cl1 o p = o ∨ (cl1 o p).countP id = o.countP id + 1 := by
  unfold cl1
  by_cases hl : p.1 < o.length
  · cases h1 : o.getD p.1 false with
    | true =>
      left
      rw [Bool.true_or]
      apply List.ext_getElem?
      intro j
      rw [List.getElem?_set]
      by_cases e : p.1 = j
      · subst e
        have h2 : o[p.1] = true := by simpa [List.getD_eq_getElem?_getD, List.getElem?_eq_getElem hl] using h1
        rw [if_pos rfl, if_pos hl, List.getElem?_eq_getElem hl, h2]
      · rw [if_neg e]
    | false =>
      rw [Bool.false_or]
      cases h2 : p.2.all fun x => o.getD x false with
      | true => right; exact cnt_set' o p.1 hl h1
      | false =>
        left
        apply List.ext_getElem?
        intro j
        rw [List.getElem?_set]
        by_cases e : p.1 = j
        · subst e
          have h2 : o[p.1] = false := by simpa [List.getD_eq_getElem?_getD, List.getElem?_eq_getElem hl] using h1
          rw [if_pos rfl, if_pos hl, List.getElem?_eq_getElem hl, h2]
        · rw [if_neg e]
  · left
    exact List.set_eq_of_length_le (by omega)
theorem stH_cases : ∀ (ops : List Cl) (o : List Bool), stH ops o = o ∨ o.countP id < (stH ops o).countP id
  | [], o => .inl rfl
  | p :: ops, o => by
    have e : stH (p :: ops) o = stH ops (cl1 o p) := rfl
    rw [e]
    rcases stH_cases ops (cl1 o p) with h | h
    · rw [h]
      rcases cl1_cases o p with h2 | h2
      · exact .inl h2
      · right; omega
    · rcases cl1_cases o p with h2 | h2
      · rw [h2] at h ⊢; exact .inr h
      · right; omega
theorem stH_stop (ops : List Cl) (o : List Bool) (n : Nat) (h : o.length ≤ n + o.countP id) : stH ops (it (stH ops) n o) = it (stH ops) n o :=
  it_fix (fun x => x.length = o.length) (fun x => x.countP id) o.length (fun x hx => (stH_len ops x).trans hx) (fun x _ => stH_cases ops x) (fun x hx => by rw [← hx]; exact List.countP_le_length) n o rfl h
theorem cl1_up (o : List Bool) (p : Cl) (j : Nat) (h : o.getD j false = true) : (cl1 o p).getD j false = true := by
  unfold cl1
  rw [getD_set]
  split
  · rename_i e; rw [e.1, h]; rfl
  · exact h
theorem stH_up : ∀ (ops : List Cl) (o : List Bool) (j : Nat), o.getD j false = true → (stH ops o).getD j false = true
  | [], o, j, h => h
  | p :: ops, o, j, h => stH_up ops (cl1 o p) j (cl1_up o p j h)
theorem stH_closed : ∀ (ops : List Cl) (o : List Bool), stH ops o = o → ∀ p ∈ ops, p.1 < o.length → (∀ x ∈ p.2, o.getD x false = true) → o.getD p.1 false = true
  | [], o, _, p, hp, _, _ => by simp at hp
  | q :: ops, o, h, p, hp, hl, hx => by
    have e : stH (q :: ops) o = stH ops (cl1 o q) := rfl
    rw [e] at h
    have h2 : cl1 o q = o := by
      rcases cl1_cases o q with h2 | h2
      · exact h2
      · rcases stH_cases ops (cl1 o q) with h3 | h3
        · rw [← h3, h]
        · rw [h] at h3; omega
    rcases List.mem_cons.1 hp with rfl | hp
    · rw [← h2]
      unfold cl1
      rw [getD_set, if_pos ⟨rfl, hl⟩]
      rw [List.all_eq_true.2 hx, Bool.or_true]
    · rw [h2] at h
      exact stH_closed ops o h p hp hl hx
theorem cl1_sound {ops : List Cl} {o0 o : List Bool} {p : Cl} (hp : p ∈ ops) (h : ∀ j, o.getD j false = true → Lh ops o0 j) (j : Nat) (hj : (cl1 o p).getD j false = true) : Lh ops o0 j := by
  unfold cl1 at hj
  rw [getD_set] at hj
  split at hj
  · rename_i e
    rw [Bool.or_eq_true] at hj
    rcases hj with hj | hj
    · exact e.1 ▸ h _ hj
    · exact e.1 ▸ Lh.go hp fun x hx => h x (List.all_eq_true.1 hj x hx)
  · exact h j hj
theorem stH_sound {all : List Cl} {o0 : List Bool} : ∀ (ops : List Cl) (o : List Bool), (∀ p ∈ ops, p ∈ all) → (∀ j, o.getD j false = true → Lh all o0 j) → ∀ j, (stH ops o).getD j false = true → Lh all o0 j
  | [], o, _, h => h
  | p :: ops, o, hs, h => stH_sound ops (cl1 o p) (fun q hq => hs q (List.mem_cons_of_mem _ hq)) (fun j hj => cl1_sound (hs p (List.mem_cons_self ..)) h j hj)
/-- As many rounds as there are flags that do not stand at the start: what stands then is what the clauses say. -/
theorem rounds (ops : List Cl) (o : List Bool) (n : Nat) (hl : ∀ p ∈ ops, p.1 < o.length) (h : o.length ≤ n + o.countP id) (x : Nat) : (it (stH ops) n o).getD x false = true ↔ Lh ops o x := by
  constructor
  · exact it_inv (F := stH ops) (P := fun z => ∀ j, z.getD j false = true → Lh ops o j) (fun z hz => stH_sound ops z (fun _ h => h) hz) n o (fun j hj => .base hj) x
  · intro hx
    have hf := stH_stop ops o n h
    have hlen : (it (stH ops) n o).length = o.length := it_inv (F := stH ops) (P := fun z => z.length = o.length) (fun z hz => (stH_len ops z).trans hz) n o rfl
    induction hx with
    | base hb => exact it_inv (F := stH ops) (P := fun z => z.getD _ false = true) (fun z hz => stH_up ops z _ hz) n o hb
    | go hp hx ih => exact stH_closed ops _ hf _ hp (by rw [hlen]; exact hl _ hp) ih
end Go.Proofs.Ytpmkdpjcpimhkaa
