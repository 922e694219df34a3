/- Texts of package regs, one behind the other. -/
import Derived.Test.YthglciccejholaaDoorProg
import Derived.Test.YthglciccejholaaDoorV34
import Derived.Test.YthglciccejholaaDoorV18
import Derived.RangeFuncNested
import Derived.RangeFuncBound
import Derived.RangeFuncCalls
import Derived.RangeFuncLeaves
import Derived.RangeFuncBox
import Derived.Shelf.Abstract
import Derived.Shelf.RegionOpen
import Derived.WalkKit
import Derived.OwnWalkIn
import Derived.TacticsInMore
import Derived.LoopNIn
import Derived.LoopIn
import Derived.Below
import Derived.Lib.Hide
import Derived.Lib.Walk
import Derived.Test.YthglciccejholaaDoorV32
section
/- Package dfa. -/
namespace Go.Proofs.YthglciccejholaaDoor
set_option linter.unusedSimpArgs false
set_option linter.unusedVariables false
set_option maxRecDepth 100000
open Go.RowKit Go.Shelf
/- Numbers by other keys. -/
open Go.Maps
theorem mem_eqv {κ μ α : Type} {k1 : α → κ} {k2 : α → μ} {x : α} {L : List α} (h : ∀ y ∈ L, (k1 y = k1 x ↔ k2 y = k2 x)) : k1 x ∈ L.map k1 ↔ k2 x ∈ L.map k2 := by
  simp only [List.mem_map]
  exact ⟨fun ⟨y, hy, e⟩ => ⟨y, hy, (h y hy).1 e⟩, fun ⟨y, hy, e⟩ => ⟨y, hy, (h y hy).2 e⟩⟩
section
variable {κ μ : Type} [DecidableEq κ] [DecidableEq μ]
theorem idx_nil (x : κ) : idx [] x = 0 := rfl
theorem idx_cons (y : κ) (L : List κ) (x : κ) : idx (y :: L) x = if y = x then 0 else idx L x + 1 := by
  unfold idx
  rw [List.idxOf_cons]
  by_cases h : y = x
  · subst h; simp
  · have e : (y == x) = false := by simpa using h
    rw [e, if_neg h]; rfl
theorem idx_eqv {α : Type} {k1 : α → κ} {k2 : α → μ} {x : α} : ∀ {L : List α}, (∀ y ∈ L, (k1 y = k1 x ↔ k2 y = k2 x)) → idx (L.map k1) (k1 x) = idx (L.map k2) (k2 x)
  | [], _ => by rw [List.map_nil, List.map_nil, idx_nil, idx_nil]
  | y :: L, h => by
    have h1 := h y (List.mem_cons_self ..)
    have h2 := idx_eqv (L := L) (x := x) (fun z hz => h z (List.mem_cons_of_mem _ hz))
    rw [List.map_cons, List.map_cons, idx_cons, idx_cons, h2]
    by_cases e : k1 y = k1 x
    · rw [if_pos e, if_pos (h1.1 e)]
    · rw [if_neg e, if_neg (fun g => e (h1.2 g))]
/-- Of each key the least number that has it. -/
def fst1 (key : Nat → κ) : Nat → List Nat
  | 0 => []
  | k + 1 => if key k ∈ seen key k then fst1 key k else fst1 key k ++ [k]
theorem fst1_map (key : Nat → κ) : ∀ k, (fst1 key k).map key = seen key k
  | 0 => rfl
  | k + 1 => by
    rw [fst1]
    by_cases h : key k ∈ seen key k
    · rw [if_pos h, seen_in h]; exact fst1_map key k
    · rw [if_neg h, seen_out h, List.map_append, fst1_map key k]; rfl
theorem fst1_lt (key : Nat → κ) : ∀ k, ∀ c ∈ fst1 key k, c < k
  | 0, c, h => by simp [fst1] at h
  | k + 1, c, h => by
    rw [fst1] at h
    split at h
    · have := fst1_lt key k c h; omega
    · rcases List.mem_append.1 h with h | h
      · have := fst1_lt key k c h; omega
      · simp at h; omega
theorem fst1_eqv {k1 : Nat → κ} {k2 : Nat → μ} {m : Nat} (h : ∀ c d, c < m → d < m → (k1 c = k1 d ↔ k2 c = k2 d)) : ∀ k, k ≤ m → fst1 k1 k = fst1 k2 k
  | 0, _ => rfl
  | k + 1, hk => by
    have h1 := fst1_eqv h k (by omega)
    rw [fst1, fst1, h1]
    have h2 : k1 k ∈ seen k1 k ↔ k2 k ∈ seen k2 k := by
      rw [← fst1_map k1, ← fst1_map k2, h1]
      exact mem_eqv fun y hy => h y k (by have := fst1_lt k2 k y hy; omega) (by omega)
    by_cases e : k1 k ∈ seen k1 k
    · rw [if_pos e, if_pos (h2.1 e)]
    · rw [if_neg e, if_neg (fun g => e (h2.2 g))]
theorem seen_eqv {k1 : Nat → κ} {k2 : Nat → μ} {m : Nat} (h : ∀ c d, c < m → d < m → (k1 c = k1 d ↔ k2 c = k2 d)) : (seen k1 m).length = (seen k2 m).length ∧ ∀ c, c < m → idx (seen k1 m) (k1 c) = idx (seen k2 m) (k2 c) := by
  have h1 := fst1_eqv h m (Nat.le_refl _)
  refine ⟨by rw [← fst1_map k1, ← fst1_map k2, h1, List.length_map, List.length_map], fun c hc => ?_⟩
  rw [← fst1_map k1, ← fst1_map k2, h1]
  exact idx_eqv fun y hy => h y c (fst1_lt k2 m y hy) hc
theorem idx_inj {L : List κ} {x y : κ} (hx : x ∈ L) (h : idx L x = idx L y) : x = y := by
  have hlt := idx_lt hx
  have hy : idx L y < L.length := by rw [← h]; exact hlt
  have h1 : L[idx L x]'hlt = x := by unfold idx; exact List.getElem_idxOf _
  have h2 : L[idx L y]'hy = y := by unfold idx; exact List.getElem_idxOf _
  rw [← h1, ← h2]
  simp only [h]
end
end Go.Proofs.YthglciccejholaaDoor
end
section
/- Package dfa. -/
namespace Go.Proofs.YthglciccejholaaDoor
set_option linter.unusedSimpArgs false
set_option linter.unusedVariables false
set_option maxRecDepth 100000
open Go.RowKit Go.Shelf
/- Classes by columns. -/
open Go.Maps
def colF (so : Nat → Nat) (rows : List (List Int)) (c : Nat) : List Int := rows.map fun r => r.getD (so c) 0
theorem clsS_iff (so cl : Nat → Nat) (row : List Int) {c d : Nat} (hc : c < 256) (hd : d < 256) : clsS so cl row c = clsS so cl row d ↔ (cl c = cl d ∧ row.getD (so c) 0 = row.getD (so d) 0) := by
  have h1 := seen_mem (keyC so cl row) 256 c hc
  have h2 : keyC so cl row c = keyC so cl row d ↔ (cl c = cl d ∧ row.getD (so c) 0 = row.getD (so d) 0) := by unfold keyC; rw [Prod.mk.injEq]
  rw [← h2]
  unfold clsS
  constructor
  · intro h
    exact idx_inj h1 h
  · intro h
    rw [h]
theorem clsS_eqv {κ : Type} [DecidableEq κ] (so cl : Nat → Nat) (row : List Int) (key : Nat → κ) (h : ∀ c d, c < 256 → d < 256 → ((cl c = cl d ∧ row.getD (so c) 0 = row.getD (so d) 0) ↔ key c = key d)) :
    (∀ c, c < 256 → clsS so cl row c = idx (seen key 256) (key c)) ∧ cntS so cl row = (seen key 256).length := by
  have h1 := seen_eqv (k1 := keyC so cl row) (k2 := key) (m := 256) (fun c d hc hd => by
    rw [← h c d hc hd]; unfold keyC; rw [Prod.mk.injEq])
  unfold clsS cntS
  exact ⟨h1.2, h1.1⟩
theorem clsG_key {κ : Type} [DecidableEq κ] (so : Nat → Nat) : ∀ (rows : List (List Int)) (row : List Int) (cl : Nat → Nat) (n0 : Nat) (key : Nat → κ), (∀ c d, c < 256 → d < 256 → (cl c = cl d ↔ key c = key d)) →
    ∀ {μ : Type} [DecidableEq μ] (out : Nat → μ), (∀ c d, c < 256 → d < 256 → ((key c = key d ∧ colF so (row :: rows) c = colF so (row :: rows) d) ↔ out c = out d)) →
    (∀ c, c < 256 → (clsG so (row :: rows) (cl, n0)).1 c = idx (seen out 256) (out c)) ∧ (clsG so (row :: rows) (cl, n0)).2 = (seen out 256).length
  | [], row, cl, n0, key, hk, μ, _, out, ho => by
    have h := clsS_eqv so cl row out (fun c d hc hd => by
      rw [← ho c d hc hd, hk c d hc hd]
      simp only [colF, List.map_cons, List.map_nil, List.cons.injEq, and_true])
    rw [clsG, clsG]
    generalize clsS so cl row = a at *
    generalize cntS so cl row = b at *
    exact h
  | r :: rows, row, cl, n0, key, hk, μ, _, out, ho => by
    rw [clsG]
    refine clsG_key so rows r (clsS so cl row) (cntS so cl row) (fun c => (key c, row.getD (so c) 0)) (fun c d hc hd => ?_) out (fun c d hc hd => ?_)
    · rw [clsS_iff so cl row hc hd, hk c d hc hd, Prod.mk.injEq]
    · rw [← ho c d hc hd]
      simp only [colF, List.map_cons, List.cons.injEq, Prod.mk.injEq]
      constructor
      · rintro ⟨⟨a, b⟩, c, d⟩; exact ⟨a, b, c, d⟩
      · rintro ⟨a, b, c, d⟩; exact ⟨⟨a, b⟩, c, d⟩
/-- The classes: columns, numbered by the least bytes. -/
theorem clsG_col (so : Nat → Nat) {rows : List (List Int)} (hne : rows ≠ []) {μ : Type} [DecidableEq μ] (out : Nat → μ) (ho : ∀ c d, c < 256 → d < 256 → (colF so rows c = colF so rows d ↔ out c = out d)) :
    (∀ c, c < 256 → (clsG so rows (fun _ => 0, 0)).1 c = idx (seen out 256) (out c)) ∧ (clsG so rows (fun _ => 0, 0)).2 = (seen out 256).length := by
  cases rows with
  | nil => exact absurd rfl hne
  | cons row rows =>
    exact clsG_key so rows row (fun _ => 0) 0 (fun _ => ()) (fun _ _ _ _ => by simp) out (fun c d hc hd => by rw [← ho c d hc hd]; simp)
theorem getD_set (l : List Int) (i j : Nat) (v : Int) (hi : i < l.length) : (l.set i v).getD j 0 = if i = j then v else l.getD j 0 := by
  simp only [List.getD_eq_getElem?_getD, List.getElem?_set]
  split
  · rename_i h; subst h; simp [hi]
  · rfl
/-- A row by classes has at a byte's class what the row has at the byte's sort. -/
theorem nxF_get (cl so : Nat → Nat) (row : List Int) (m : Nat) (hcl : ∀ c, c < 256 → cl c < m) (hrow : ∀ c d, c < 256 → d < 256 → cl c = cl d → row.getD (so c) 0 = row.getD (so d) 0) : ∀ k, k ≤ 256 → ∀ c, c < k → (nxF cl so row m k).getD (cl c) 0 = row.getD (so c) 0
  | 0, _, c, h => by omega
  | k + 1, hk, c, h => by
    rw [nxF_succ, getD_set _ _ _ _ (by rw [nxF_len]; exact hcl k (by omega))]
    by_cases e : cl k = cl c
    · rw [if_pos e]; exact hrow k c (by omega) (by omega) e
    · rw [if_neg e]
      refine nxF_get cl so row m hcl hrow k (by omega) c ?_
      rcases Nat.lt_or_ge c k with h2 | h2
      · exact h2
      · obtain rfl : c = k := by omega
        exact absurd rfl e
end Go.Proofs.YthglciccejholaaDoor
end
section
/- Package dfa. -/
namespace Go.Proofs.YthglciccejholaaDoor
set_option linter.unusedSimpArgs false
set_option linter.unusedVariables false
set_option maxRecDepth 100000
open Go.RowKit Go.Shelf
/- Sets by short keys. -/
open Go.Maps
def sk (n : Nat) (l : List Nat) : List Bool := (List.range n).map (mb l)
theorem mb_iff (l : List Nat) (x : Nat) : mb l x = true ↔ x ∈ l := by unfold mb; simp
theorem sk_iff {n : Nat} (hn : n ≤ 4096) {l m : List Nat} (hl : ∀ x ∈ l, x < n) (hm : ∀ x ∈ m, x < n) : kS (mb l) = kS (mb m) ↔ sk n l = sk n m := by
  rw [kS_iff]
  unfold sk
  rw [List.map_inj_left]
  constructor
  · intro h x hx
    rw [List.mem_range] at hx
    exact h x (by omega)
  · intro h x hx
    by_cases e : x < n
    · exact h x (List.mem_range.2 e)
    · rw [Bool.eq_iff_iff, mb_iff, mb_iff]
      exact ⟨fun h => absurd (hl x h) e, fun h => absurd (hm x h) e⟩
/-- By short keys. -/
def nmIk (n : Nat) (sets : List (List Nat)) (l : List Nat) : Bool := decide (sk n l ∈ sets.map (sk n))
def nmRk (n : Nat) (lv : Nat → Bool) (sets : List (List Nat)) (l : List Nat) : Int := if nmA lv l then (if nmIk n sets l then ((idx (sets.map (sk n)) (sk n l) : Nat) : Int) else (sets.length : Nat)) else -1
def nmSk (n : Nat) (lv : Nat → Bool) (sets : List (List Nat)) (l : List Nat) : List (List Nat) := if nmA lv l && !nmIk n sets l then sets ++ [l] else sets
def leadK (ss : List Nst) (fs fb : Nat → Bool) : List Nat := goF ss (ss.length + 1) 0 (gl ss ((List.range ss.length).filter fun x => fs x && fb x))
def onFk (ss : List Nst) (lv : Nat → Bool) (bys : List (Nat → Bool)) (f : Nat → Bool) : Nat → List (List Nat) → List (List Nat) × List Int
  | 0, sets => (sets, [])
  | k + 1, sets => (nmSk ss.length lv (onFk ss lv bys f k sets).1 (leadK ss f (bys[k]?.getD noS)), (onFk ss lv bys f k sets).2 ++ [nmRk ss.length lv (onFk ss lv bys f k sets).1 (leadK ss f (bys[k]?.getD noS))])
def fnFk (ss : List Nst) (lv : Nat → Bool) (bys : List (Nat → Bool)) : Nat → Nat → List (List Nat) → List (List Int) → Bool × List (List Nat) × List (List Int)
  | 0, _, sets, nums => (true, sets, nums)
  | q + 1, at_, sets, nums => match sets[at_]? with
    | none => (true, sets, nums)
    | some l => if 2048 < sets.length then (false, sets, nums) else fnFk ss lv bys q (at_ + 1) (onFk ss lv bys (mb l) bys.length sets).1 (nums ++ [(onFk ss lv bys (mb l) bys.length sets).2])
section
variable {n : Nat} {lv : Nat → Bool} {sets : List (List Nat)} {l : List Nat}
theorem key_eqv (hn : n ≤ 4096) (hs : ∀ s ∈ sets, ∀ x ∈ s, x < n) (hl : ∀ x ∈ l, x < n) : ∀ y ∈ sets, ((fun l => kS (mb l)) y = (fun l => kS (mb l)) l ↔ sk n y = sk n l) := fun y hy => sk_iff hn (hs y hy) hl
theorem nmI_k (hn : n ≤ 4096) (hs : ∀ s ∈ sets, ∀ x ∈ s, x < n) (hl : ∀ x ∈ l, x < n) : nmI sets l = nmIk n sets l := by
  unfold nmI nmIk
  rw [decide_eq_decide]
  exact mem_eqv (key_eqv hn hs hl)
theorem nmR_k (hn : n ≤ 4096) (hs : ∀ s ∈ sets, ∀ x ∈ s, x < n) (hl : ∀ x ∈ l, x < n) : nmR lv sets l = nmRk n lv sets l := by
  unfold nmR nmRk
  rw [nmI_k hn hs hl]
  have := idx_eqv (key_eqv hn hs hl)
  rw [this]
theorem nmS_k (hn : n ≤ 4096) (hs : ∀ s ∈ sets, ∀ x ∈ s, x < n) (hl : ∀ x ∈ l, x < n) : nmS lv sets l = nmSk n lv sets l := by
  unfold nmS nmSk
  rw [nmI_k hn hs hl]
end
theorem range_cut {n m : Nat} (h : n ≤ m) {p : Nat → Bool} (hp : ∀ x, x < m → p x = true → x < n) : (List.range m).filter p = (List.range n).filter p := by
  obtain ⟨d, rfl⟩ := Nat.le.dest h
  rw [List.range_add, List.filter_append]
  have : ((List.range d).map (n + ·)).filter p = [] := by
    rw [List.filter_eq_nil_iff]
    intro x hx
    obtain ⟨y, hy, rfl⟩ := List.mem_map.1 hx
    intro hpx
    have := hp (n + y) (by have := List.mem_range.1 hy; omega) hpx
    omega
  rw [this, List.append_nil]
/-- What is so of the sorts. -/
structure SoP (ss : List Nst) (bys : List (Nat → Bool)) : Prop where
  n : ss.length ≤ 4096
  by_ : ∀ s (h : s < bys.length), ∀ x, x < 4096 → bys[s] x = true → x < ss.length
  lead : ∀ f s (h : s < bys.length), ∀ x ∈ leadL ss f bys[s], x < ss.length
theorem lead_k {ss : List Nst} {bys : List (Nat → Bool)} (h : SoP ss bys) (f : Nat → Bool) {s : Nat} (hs : s < bys.length) : leadL ss f bys[s] = leadK ss f bys[s] := by
  unfold leadL leadK
  rw [range_cut h.n fun x hx hp => ?_]
  simp only [Bool.and_eq_true] at hp
  exact h.by_ s hs x hx hp.2
theorem onF_k {ss : List Nst} {bys : List (Nat → Bool)} (h : SoP ss bys) (lv : Nat → Bool) (f : Nat → Bool) (sets : List (List Nat)) (hs : ∀ s ∈ sets, ∀ x ∈ s, x < ss.length) : ∀ k, k ≤ bys.length → onF ss lv bys f k sets = onFk ss lv bys f k sets
  | 0, _ => rfl
  | k + 1, hk => by
    have hk2 : k < bys.length := by omega
    have h1 := onF_in ss lv bys f sets (fun l => ∀ x ∈ l, x < ss.length) hs (fun s hs => h.lead f s hs) k (by omega)
    rw [onF, onFk, ← onF_k h lv f sets hs k (by omega), List.getElem?_eq_getElem hk2]
    simp only [Option.getD_some]
    rw [nmS_k h.n h1 (h.lead f k hk2), nmR_k h.n h1 (h.lead f k hk2), lead_k h f hk2]
theorem fnF_k {ss : List Nst} {bys : List (Nat → Bool)} (h : SoP ss bys) (lv : Nat → Bool) : ∀ q at_ (sets : List (List Nat)) (nums : List (List Int)), (∀ s ∈ sets, ∀ x ∈ s, x < ss.length) → fnF ss lv bys q at_ sets nums = fnFk ss lv bys q at_ sets nums
  | 0, _, _, _, _ => rfl
  | q + 1, at_, sets, nums, hs => by
    rw [fnF, fnFk]
    cases sets[at_]? with
    | none => rfl
    | some l =>
      simp only
      rw [← onF_k h lv (mb l) sets hs bys.length (Nat.le_refl _), fnF_k h lv q (at_ + 1) _ _ (onF_in ss lv bys (mb l) sets (fun l => ∀ x ∈ l, x < ss.length) hs (fun s hs => h.lead _ s hs) bys.length (Nat.le_refl _))]
end Go.Proofs.YthglciccejholaaDoor
end
