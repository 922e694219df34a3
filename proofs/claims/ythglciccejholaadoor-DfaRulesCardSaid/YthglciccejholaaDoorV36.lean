/- Texts of package regs, one behind the other. -/
import Derived.Test.YthglciccejholaaDoorProg
import Derived.Test.YthglciccejholaaDoorV35
import Derived.Test.YthglciccejholaaDoorV34
import Derived.RangeFuncNested
import Derived.RangeFuncBound
import Derived.RangeFuncCalls
import Derived.RangeFuncLeaves
import Derived.RangeFuncBox
import Derived.Shelf.Abstract
import Derived.Shelf.RegionOpen
import Derived.WalkKit
import Derived.OwnWalkIn
import Derived.TacticsInMore
import Derived.LoopNIn
import Derived.LoopIn
import Derived.Below
import Derived.Lib.Hide
import Derived.Lib.Walk
import Derived.Test.YthglciccejholaaDoorGi
section
/- Package dfa. -/
namespace Go.Proofs.YthglciccejholaaDoor
set_option linter.unusedSimpArgs false
set_option linter.unusedVariables false
set_option maxRecDepth 100000
open Go.RowKit Go.Shelf
/- Sorts by short keys; the chapter's automaton. -/
open Go.Maps
theorem byL_fst (ss : List Nst) : ∀ c, byL ss c = (fst1 (byK ss) c).map (byF ss)
  | 0 => rfl
  | c + 1 => by
    rw [byL, fst1]
    by_cases h : byK ss c ∈ seen (byK ss) c
    · rw [if_pos h, if_pos h]; exact byL_fst ss c
    · rw [if_neg h, if_neg h, List.map_append, byL_fst ss c]; rfl
theorem byF_lt {ss : List Nst} {c x : Nat} (h : byF ss c x = true) : x < ss.length := by
  unfold byF at h
  cases e : ss[x]? with
  | none => rw [e] at h; cases h
  | some s => exact (List.getElem?_eq_some_iff.1 e).1
def byS (ss : List Nst) (c : Nat) : List Bool := (List.range ss.length).map (byF ss c)
theorem byS_iff {ss : List Nst} (hn : ss.length ≤ 4096) (c d : Nat) : byK ss c = byK ss d ↔ byS ss c = byS ss d := by
  unfold byK byS
  rw [kS_iff, List.map_inj_left]
  constructor
  · intro h x hx
    exact h x (by have := List.mem_range.1 hx; omega)
  · intro h x hx
    by_cases e : x < ss.length
    · exact h x (List.mem_range.2 e)
    · have h1 : ∀ c, byF ss c x = false := fun c => by
        cases h2 : byF ss c x with
        | false => rfl
        | true => exact absurd (byF_lt h2) e
      rw [h1, h1]
theorem soF_S {ss : List Nst} (hn : ss.length ≤ 4096) {c : Nat} (hc : c < 256) : soF ss c = idx (seen (byS ss) 256) (byS ss c) := by
  have h := (seen_eqv (k1 := byK ss) (k2 := byS ss) (m := 256) (fun c d _ _ => byS_iff hn c d)).2 c hc
  unfold soF
  exact h
theorem byL_S {ss : List Nst} (hn : ss.length ≤ 4096) : byL ss 256 = (fst1 (byS ss) 256).map (byF ss) := by
  have h := fst1_eqv (k1 := byK ss) (k2 := byS ss) (m := 256) (fun c d _ _ => byS_iff hn c d) 256 (Nat.le_refl _)
  rw [byL_fst, h]
theorem sop_of {st : Int} {ss : List Nst} (h : chkN st ss = 0) : SoP ss (byL ss 256) := by
  obtain ⟨hn, -, -, hi, hto, -⟩ := chk_facts h
  have hb : ∀ s (hs : s < (byL ss 256).length), ∃ j, (byL ss 256)[s] = byF ss j := fun s hs => by
    obtain ⟨j, -, e⟩ := byL_mem ss 256 _ (List.getElem_mem hs)
    exact ⟨j, e⟩
  refine ⟨hn, fun s hs x _ hx => ?_, fun f s hs => ?_⟩
  · obtain ⟨j, e⟩ := hb s hs
    rw [e] at hx
    exact byF_lt hx
  · obtain ⟨j, e⟩ := hb s hs
    rw [e]
    have h2 := gl_ok (ss := ss) ((List.range 4096).filter fun x => f x && byF ss j x) [] .nil (by simp) (fun x hx => by
      rw [List.mem_filter] at hx
      have h3 := hx.2
      simp only [Bool.and_eq_true] at h3
      have h4 := byF_lt h3.2
      have h5 := h3.2
      unfold byF at h5
      unfold toN
      rw [List.getElem?_eq_getElem h4] at h5 ⊢
      simp only [Bool.and_eq_true, decide_eq_true_eq] at h5 ⊢
      have := hto _ (List.getElem_mem h4)
      omega)
    exact goF_ltI hi h2.1 h2.2
/-- A set of the bytes from one up «to» another one. -/
def uR (lo hi : Nat) : Nat → Int := fun i => (W (fun b => decide (lo ≤ b) && decide (b ≤ hi) && decide (b < 256)) i : Nat)
theorem uR_has (lo hi : Nat) {c : Nat} (hc : c < 256) : hasU (uR lo hi) (UInt8.ofNat c) = (decide (lo ≤ c) && decide (c ≤ hi)) := by
  have e : (UInt8.ofNat c).toNat = c := by simp; omega
  unfold hasU uR
  rw [e, Int.toNat_natCast, W_test _ _ _ (by omega), show 64 * (c / 64) + c % 64 = c by omega]
  simp [hc]
/-- The chapter's automaton A. -/
def ssA : List Nst := [⟨fun _ => 0, -1, [1, 4], -1⟩, ⟨uR 105 105, 2, [], -1⟩, ⟨uR 102 102, 3, [], -1⟩, ⟨fun _ => 0, -1, [], 0⟩, ⟨uR 97 122, 5, [], -1⟩, ⟨fun _ => 0, -1, [4], 1⟩]
def kA (c : Nat) : List Bool := [false, decide (c = 105), decide (c = 102), false, decide (97 ≤ c) && decide (c ≤ 122), false]
theorem byF_A {c : Nat} (hc : c < 256) : ∀ x, byF ssA c x = (kA c).getD x false
  | 0 => rfl
  | 1 => by show (decide (0 ≤ (2 : Int)) && hasU (uR 105 105) (UInt8.ofNat c)) = decide (c = 105); rw [uR_has _ _ hc, Bool.eq_iff_iff]; simp; omega
  | 2 => by show (decide (0 ≤ (3 : Int)) && hasU (uR 102 102) (UInt8.ofNat c)) = decide (c = 102); rw [uR_has _ _ hc, Bool.eq_iff_iff]; simp; omega
  | 3 => rfl
  | 4 => by show (decide (0 ≤ (5 : Int)) && hasU (uR 97 122) (UInt8.ofNat c)) = (decide (97 ≤ c) && decide (c ≤ 122)); rw [uR_has _ _ hc]; simp
  | 5 => rfl
  | x + 6 => by
    cases h : byF ssA c (x + 6) with
    | true => have h2 : x + 6 < 6 := byF_lt h; omega
    | false => simp [kA]
theorem byS_A {c : Nat} (hc : c < 256) : byS ssA c = kA c := by
  unfold byS
  show [byF ssA c 0, byF ssA c 1, byF ssA c 2, byF ssA c 3, byF ssA c 4, byF ssA c 5] = _
  simp only [byF_A hc]
  rfl
theorem fstA : fst1 kA 256 = [0, 97, 102, 105] := by decide +kernel
end Go.Proofs.YthglciccejholaaDoor
end
section
/- Package dfa. -/
namespace Go.Proofs.YthglciccejholaaDoor
set_option linter.unusedSimpArgs false
set_option linter.unusedVariables false
set_option maxRecDepth 100000
open Go.RowKit Go.Shelf
/- What Of answers of the chapter's automaton. -/
open Go.Maps
def setsA : List (List Nat) := [[0, 1, 4], [5, 4], [2, 5, 4], [3, 5, 4]]
def rowsA : List (List Int) := [[-1, 1, 1, 2], [-1, 1, 1, 1], [-1, 1, 3, 1], [-1, 1, 1, 1]]
def byA : List (Nat → Bool) := [0, 97, 102, 105].map fun c x => (kA c).getD x false
theorem liveA : liveL ssA = [3, 5, 2, 4, 1, 0] := by decide +kernel
theorem fst_A : fst1 (byS ssA) 256 = [0, 97, 102, 105] := by
  rw [← fstA]
  exact fst1_eqv (m := 256) (fun c d hc hd => by rw [byS_A hc, byS_A hd]) 256 (Nat.le_refl _)
theorem byL_A : byL ssA 256 = byA := by
  rw [byL_S (by decide), fst_A]
  have h : ∀ c, c < 256 → byF ssA c = fun x => (kA c).getD x false := fun c hc => funext (byF_A hc)
  show [byF ssA 0, byF ssA 97, byF ssA 102, byF ssA 105] = _
  rw [h 0 (by decide), h 97 (by decide), h 102 (by decide), h 105 (by decide)]
  rfl
theorem chk_A : chkN 0 ssA = 0 := by decide +kernel
theorem fnA : fnFk ssA (mb [3, 5, 2, 4, 1, 0]) byA 2050 0 [goF ssA 7 0 [0]] [] = (true, setsA, rowsA) := by decide +kernel
theorem ofF_A : ofF 0 ssA = (true, setsA, rowsA) := by
  have h1 := fnF_k (sop_of chk_A) (mb (liveL ssA)) 2050 0 [goF ssA 7 0 [0]] [] (by decide +kernel)
  unfold ofF
  rw [show ssA.length + 1 = 7 from rfl, show (0 : Int).toNat = 0 from rfl, h1, byL_A, liveA, fnA]
def cqA (c : Nat) : Nat := idx (seen kA 256) (kA c)
theorem soF_A {c : Nat} (hc : c < 256) : soF ssA c = cqA c := by
  have h := (seen_eqv (k1 := byS ssA) (k2 := kA) (m := 256) (fun c d hc hd => by rw [byS_A hc, byS_A hd])).2 c hc
  rw [soF_S (by decide) hc]
  exact h
theorem seenA : seen kA 256 = [kA 0, kA 97, kA 102, kA 105] := by rw [← fst1_map, fstA]; rfl
theorem cqA_lt {c : Nat} (hc : c < 256) : cqA c < 4 := by
  have h := idx_lt (seen_mem kA 256 c hc)
  have e : (seen kA 256).length = 4 := by rw [seenA]; rfl
  unfold cqA; omega
theorem colA_inj : ∀ a b : Nat, a < 4 → b < 4 → (rowsA.map fun r => r.getD a 0) = (rowsA.map fun r => r.getD b 0) → a = b := by
  have h : ∀ a : Fin 4, ∀ b : Fin 4, (rowsA.map fun r => r.getD a.val 0) = (rowsA.map fun r => r.getD b.val 0) → a = b := by decide +kernel
  intro a b ha hb e
  exact Fin.mk.inj_iff.1 (h ⟨a, ha⟩ ⟨b, hb⟩ e)
theorem colA (c d : Nat) (hc : c < 256) (hd : d < 256) : colF (soF ssA) rowsA c = colF (soF ssA) rowsA d ↔ kA c = kA d := by
  unfold colF
  rw [soF_A hc, soF_A hd]
  constructor
  · intro h
    have h2 := colA_inj _ _ (cqA_lt hc) (cqA_lt hd) h
    exact idx_inj (seen_mem kA 256 c hc) h2
  · intro h
    have : cqA c = cqA d := by unfold cqA; rw [h]
    rw [this]
theorem cqA_at : cqA 0 = 0 ∧ cqA 97 = 1 ∧ cqA 102 = 2 ∧ cqA 105 = 3 ∧ cqA 55 = 0 := by
  unfold cqA
  rw [seenA]
  decide +kernel
theorem row_A (cl : Nat → Nat) (hcl : ∀ c, c < 256 → cl c = cqA c) (row : List Int) (h : row.length = 4) : nxF cl (soF ssA) row 4 256 = row := by
  have hg := nxF_get cl (soF ssA) row 4 (fun c hc => by rw [hcl c hc]; exact cqA_lt hc) (fun c d hc hd e => by rw [soF_A hc, soF_A hd, ← hcl c hc, ← hcl d hd, e]) 256 (Nat.le_refl _)
  have hl := nxF_len cl (soF ssA) row 4 256
  obtain ⟨e0, e1, e2, e3, -⟩ := cqA_at
  have g0 := hg 0 (by decide)
  have g1 := hg 97 (by decide)
  have g2 := hg 102 (by decide)
  have g3 := hg 105 (by decide)
  rw [soF_A (by decide), hcl _ (by decide), e0] at g0
  rw [soF_A (by decide), hcl _ (by decide), e1] at g1
  rw [soF_A (by decide), hcl _ (by decide), e2] at g2
  rw [soF_A (by decide), hcl _ (by decide), e3] at g3
  generalize nxF cl (soF ssA) row 4 256 = r at *
  match r, row, hl, h, g0, g1, g2, g3 with
  | [a, b, c, d], [a', b', c', d'], _, _, g0, g1, g2, g3 =>
    simp [List.getD] at g0 g1 g2 g3
    rw [g0, g1, g2, g3]
theorem rl_A (l : List Nat) (hl : ∀ x ∈ l, x < 6) : lstR ssA ((List.range 4096).filter (mb l)) = lstR ssA ((List.range 6).filter (mb l)) := by
  rw [range_cut (show 6 ≤ 4096 by decide) fun x _ hx => hl x ((mb_iff l x).1 hx)]
/-- What Of answers of A. -/
structure IsA (d : Df) : Prop where
  st : d.st = 0
  nx : d.nx = rowsA
  rl : d.rl = [-1, 1, 1, 0]
  cl : ∀ c, c < 256 → d.cl c = cqA c
theorem ofD_A : (ofD 0 ssA).2 = 0 ∧ IsA (ofD 0 ssA).1 := by
  have hc := clsG_col (soF ssA) (rows := rowsA) (by decide) kA colA
  have e4 : (seen kA 256).length = 4 := by rw [seenA]; rfl
  have hD : ofD 0 ssA = (autX (soF ssA) ssA setsA rowsA, 0) := by
    unfold ofD
    rw [chk_A, if_neg (by decide), ofF_A, if_pos rfl]
  rw [hD]
  have hcl : ∀ c, c < 256 → (autX (soF ssA) ssA setsA rowsA).cl c = cqA c := fun c hcc => by
    unfold autX cqA
    simp only
    rw [hc.1 c hcc]
  refine ⟨rfl, rfl, ?_, ?_, hcl⟩
  · unfold autX
    simp only
    have hc2 := hc.2
    have hc1 := hc.1
    rw [e4] at hc2
    generalize clsG (soF ssA) rowsA (fun _ => 0, 0) = g at *
    obtain ⟨cl, m⟩ := g
    simp only at hc1 hc2
    subst hc2
    have hr := row_A cl hc1
    show [nxF cl (soF ssA) [-1, 1, 1, 2] 4 256, nxF cl (soF ssA) [-1, 1, 1, 1] 4 256, nxF cl (soF ssA) [-1, 1, 3, 1] 4 256, nxF cl (soF ssA) [-1, 1, 1, 1] 4 256] = rowsA
    rw [hr _ rfl, hr _ rfl, hr _ rfl]
    rfl
  · unfold autX
    show [lstR ssA ((List.range 4096).filter (mb [0, 1, 4])), lstR ssA ((List.range 4096).filter (mb [5, 4])), lstR ssA ((List.range 4096).filter (mb [2, 5, 4])), lstR ssA ((List.range 4096).filter (mb [3, 5, 4]))] = _
    rw [rl_A _ (by decide), rl_A _ (by decide), rl_A _ (by decide), rl_A _ (by decide)]
    decide +kernel
end Go.Proofs.YthglciccejholaaDoor
end
section
/- Package dfa. -/
namespace Go.Proofs.YthglciccejholaaDoor
set_option linter.unusedSimpArgs false
set_option linter.unusedVariables false
set_option maxRecDepth 100000
open Go.RowKit Go.Shelf
/- What the sets mean. -/
open Go.Maps
theorem idx_get {κ : Type} [DecidableEq κ] {L : List κ} {x : κ} (h : x ∈ L) : L[idx L x]? = some x := by
  have hlt := idx_lt h
  have h1 : L[idx L x]'hlt = x := by unfold idx; exact List.getElem_idxOf _
  rw [List.getElem?_eq_getElem hlt, h1]
theorem byF_to {ss : List Nst} {c x : Nat} : byF ss c x = true ↔ toOf hasU ss (UInt8.ofNat c) x = some (toN ss x) := by
  unfold byF toOf toN
  cases ss[x]? with
  | none => simp
  | some s =>
    simp only [Bool.and_eq_true, decide_eq_true_eq]
    constructor
    · intro h; rw [if_pos h]
    · intro h
      split at h
      · rename_i h2; exact h2
      · cases h
theorem to_toN {ss : List Nst} {c x t : Nat} (h : toOf hasU ss (UInt8.ofNat c) x = some t) : t = toN ss x ∧ x < ss.length := by
  unfold toOf toN at *
  cases e : ss[x]? with
  | none => rw [e] at h; cases h
  | some s =>
    rw [e] at h
    simp only at h ⊢
    split at h
    · cases h; exact ⟨rfl, (List.getElem?_eq_some_iff.1 e).1⟩
    · cases h
theorem mem_gl {ss : List Nst} {y : Nat} : ∀ (xs acc : List Nat), y ∈ xs.foldl (fun a x => rch a (toN ss x)) acc ↔ y ∈ acc ∨ ∃ x ∈ xs, y = toN ss x
  | [], acc => by simp
  | x :: xs, acc => by
    rw [List.foldl_cons, mem_gl xs, mem_rch]
    simp only [List.mem_cons, exists_eq_or_imp]
    constructor
    · rintro ((h | h) | h)
      · exact .inl h
      · exact .inr (.inl h)
      · exact .inr (.inr h)
    · rintro (h | h | h)
      · exact .inl (.inl h)
      · exact .inl (.inr h)
      · exact .inr h
theorem inb_fr {ss : List Nst} (h : InB ss) : ∀ s x, x ∈ frOf ss s → x.toNat < ss.length := fun s x hx => by
  have := h s x hx; omega
/-- Where a byte leads from a set. -/
theorem mem_lead {ss : List Nst} (hn : ss.length ≤ 4096) (hi : InB ss) (hto : ∀ s ∈ ss, s.to < ss.length) (l : List Nat) (c y : Nat) : y ∈ leadL ss (mb l) (byF ss c) ↔ ∃ x ∈ l, ∃ t, toOf hasU ss (UInt8.ofNat c) x = some t ∧ Rt ss t y := by
  have hx : ∀ x, x ∈ (List.range 4096).filter (fun x => mb l x && byF ss c x) ↔ x ∈ l ∧ toOf hasU ss (UInt8.ofNat c) x = some (toN ss x) := fun x => by
    rw [List.mem_filter, List.mem_range, Bool.and_eq_true, mb_iff, byF_to]
    constructor
    · exact fun h => h.2
    · intro h
      have := (to_toN h.2).2
      exact ⟨by omega, h⟩
  have h2 := gl_ok (ss := ss) ((List.range 4096).filter fun x => mb l x && byF ss c x) [] .nil (by simp) (fun x hxx => by
    have h3 := ((hx x).1 hxx).2
    have h4 := (to_toN h3).2
    unfold toOf at h3
    unfold toN
    rw [List.getElem?_eq_getElem h4] at h3 ⊢
    simp only at h3 ⊢
    split at h3
    · have := hto _ (List.getElem_mem h4); omega
    · cases h3)
  have h3 := goF_spec ss ss.length (inb_fr hi) (ss.length + 1) 0 _ _ h2.1 h2.2 (by omega) (by omega) (fun b hb => ⟨b, hb, .refl b⟩) (fun a ha => ha) (fun j hj => by omega)
  unfold leadL gl
  rw [h3.2 y]
  constructor
  · rintro ⟨a, ha, hr⟩
    rcases (mem_gl _ _).1 ha with h | ⟨x, h4, rfl⟩
    · cases h
    · obtain ⟨h5, h6⟩ := (hx x).1 h4
      exact ⟨x, h5, _, h6, hr⟩
  · rintro ⟨x, h5, t, h6, hr⟩
    obtain ⟨rfl, -⟩ := to_toN h6
    exact ⟨_, (mem_gl _ _).2 (.inr ⟨x, (hx x).2 ⟨h5, h6⟩, rfl⟩), hr⟩
/-- A row says where a set leads, sort by sort. -/
structure Tr (ss : List Nst) (lv : Nat → Bool) (bys : List (Nat → Bool)) (sets : List (List Nat)) (f : Nat → Bool) (k : Nat) (row : List Int) : Prop where
  ln : row.length = k
  tr : ∀ s (h : s < bys.length), s < k → (nmA lv (leadL ss f bys[s]) = false → row.getD s 0 = -1) ∧ (nmA lv (leadL ss f bys[s]) = true → ∃ (i : Nat) (m : List Nat), sets[i]? = some m ∧ row.getD s 0 = (i : Int) ∧ ∀ x, x < 4096 → (x ∈ m ↔ x ∈ leadL ss f bys[s]))
theorem Tr.app {ss : List Nst} {lv : Nat → Bool} {bys : List (Nat → Bool)} {sets : List (List Nat)} {f : Nat → Bool} {k : Nat} {row : List Int} (h : Tr ss lv bys sets f k row) (t : List (List Nat)) : Tr ss lv bys (sets ++ t) f k row := by
  refine ⟨h.ln, fun s hs hk => ⟨(h.tr s hs hk).1, fun ha => ?_⟩⟩
  obtain ⟨i, m, h1, h2, h3⟩ := (h.tr s hs hk).2 ha
  exact ⟨i, m, by rw [List.getElem?_append_left (List.getElem?_eq_some_iff.1 h1).1]; exact h1, h2, h3⟩
theorem nm_tr (lv : Nat → Bool) (sets : List (List Nat)) (l : List Nat) : (nmA lv l = false → nmR lv sets l = -1) ∧ (nmA lv l = true → ∃ (i : Nat) (m : List Nat), (nmS lv sets l)[i]? = some m ∧ nmR lv sets l = (i : Int) ∧ ∀ x, x < 4096 → (x ∈ m ↔ x ∈ l)) := by
  unfold nmR nmS
  constructor
  · intro h; rw [h]; rfl
  · intro h
    rw [h]
    by_cases hi : nmI sets l = true
    · have h2 : kS (mb l) ∈ sets.map fun l => kS (mb l) := by unfold nmI at hi; exact of_decide_eq_true hi
      have h3 := idx_get h2
      rw [hi]
      rw [List.getElem?_map] at h3
      obtain ⟨m, h4, h5⟩ := Option.map_eq_some_iff.1 h3
      refine ⟨_, m, by simpa using h4, by simp, fun x hx => ?_⟩
      have := kS_iff.1 h5 x hx
      rw [Bool.eq_iff_iff, mb_iff, mb_iff] at this
      exact this
    · have hi2 : nmI sets l = false := by simpa using hi
      rw [hi2]
      exact ⟨sets.length, l, by simp, by simp, fun x _ => Iff.rfl⟩
theorem getD_app1 (l : List Int) (a : Int) (s : Nat) (h : s < l.length) : (l ++ [a]).getD s 0 = l.getD s 0 := by
  simp [List.getD, List.getElem?_append_left h]
theorem getD_app2 (l : List Int) (a : Int) : (l ++ [a]).getD l.length 0 = a := by simp [List.getD]
theorem onF_tr (ss : List Nst) (lv : Nat → Bool) (bys : List (Nat → Bool)) (f : Nat → Bool) (sets : List (List Nat)) : ∀ k, k ≤ bys.length → Tr ss lv bys (onF ss lv bys f k sets).1 f k (onF ss lv bys f k sets).2
  | 0, _ => ⟨rfl, fun s _ h => by omega⟩
  | k + 1, hk => by
    have hkb : k < bys.length := hk
    have ih := onF_tr ss lv bys f sets k (Nat.le_of_lt hkb)
    have hl := onF_len ss lv bys f sets k
    rw [onF, List.getElem?_eq_getElem hkb]
    simp only [Option.getD_some]
    generalize onF ss lv bys f k sets = g at *
    obtain ⟨t, ht, -⟩ := nmS_pre lv g.1 (leadL ss f bys[k])
    have hn := nm_tr lv g.1 (leadL ss f bys[k])
    rw [ht] at hn ⊢
    have ih2 := ih.app t
    refine ⟨by simp [hl], fun s hs hk2 => ?_⟩
    by_cases e : s = k
    · subst e
      have hg := getD_app2 g.2 (nmR lv g.1 (leadL ss f bys[s]))
      rw [hl] at hg
      rw [hg]
      exact hn
    · rw [getD_app1 _ _ _ (by omega)]
      exact ih2.tr s hs (by omega)
/-- What find finds: each set's row, and the first set. -/
theorem fnF_tr (ss : List Nst) (lv : Nat → Bool) (bys : List (Nat → Bool)) : ∀ (q at_ : Nat) (sets : List (List Nat)) (nums : List (List Int)), nums.length = at_ → (∀ (i : Nat) (r : List Int), nums[i]? = some r → ∃ l, sets[i]? = some l ∧ Tr ss lv bys sets (mb l) bys.length r) →
    (∀ (i : Nat) (r : List Int), (fnF ss lv bys q at_ sets nums).2.2[i]? = some r → ∃ l, (fnF ss lv bys q at_ sets nums).2.1[i]? = some l ∧ Tr ss lv bys (fnF ss lv bys q at_ sets nums).2.1 (mb l) bys.length r) ∧ ∃ t, (fnF ss lv bys q at_ sets nums).2.1 = sets ++ t
  | 0, _, sets, _, _, h => ⟨h, [], by simp [fnF]⟩
  | q + 1, at_, sets, nums, hl, h => by
    rw [fnF]
    cases hx : sets[at_]? with
    | none => exact ⟨h, [], by simp⟩
    | some l =>
      simp only
      by_cases hb : 2048 < sets.length
      · rw [if_pos hb]; exact ⟨h, [], by simp⟩
      · rw [if_neg hb]
        obtain ⟨t, ht, -⟩ := onF_pre ss lv bys (mb l) sets bys.length
        have htr := onF_tr ss lv bys (mb l) sets bys.length (Nat.le_refl _)
        generalize onF ss lv bys (mb l) bys.length sets = g at *
        obtain ⟨g1, g2⟩ := g
        simp only at ht htr ⊢
        subst ht
        have ih := fnF_tr ss lv bys q (at_ + 1) (sets ++ t) (nums ++ [g2]) (by simp [hl]) (fun i r hr => by
          by_cases hi : i < nums.length
          · rw [List.getElem?_append_left hi] at hr
            obtain ⟨m, h1, h2⟩ := h i r hr
            exact ⟨m, by rw [List.getElem?_append_left (List.getElem?_eq_some_iff.1 h1).1]; exact h1, h2.app t⟩
          · have hi2 : i = nums.length := by
              have := (List.getElem?_eq_some_iff.1 hr).1
              simp at this; omega
            subst hi2
            simp at hr
            subst hr
            rw [hl]
            exact ⟨l, by rw [List.getElem?_append_left (List.getElem?_eq_some_iff.1 hx).1]; exact hx, htr⟩)
        obtain ⟨h1, u, h2⟩ := ih
        exact ⟨h1, t ++ u, by rw [h2, List.append_assoc]⟩
end Go.Proofs.YthglciccejholaaDoor
end
