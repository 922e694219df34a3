/- Texts of package regs, one behind the other. -/
import Derived.Test.YthglciccejholaaDoorProg
import Derived.Test.YthglciccejholaaDoorZ44
import Derived.Test.YthglciccejholaaDoorZ43
import Derived.RangeFuncNested
import Derived.RangeFuncBound
import Derived.RangeFuncCalls
import Derived.RangeFuncLeaves
import Derived.RangeFuncBox
import Derived.Shelf.Abstract
import Derived.Shelf.RegionOpen
import Derived.WalkKit
import Derived.OwnWalkIn
import Derived.TacticsInMore
import Derived.LoopNIn
import Derived.LoopIn
import Derived.Below
import Derived.Lib.Hide
import Derived.Lib.Walk
import Derived.Test.YthglciccejholaaDoorGi
import Derived.Test.YthglciccejholaaDoorZ5
import Derived.Test.YthglciccejholaaDoorZ4
section
/- Package dfa. -/
namespace Go.Proofs.YthglciccejholaaDoor
set_option linter.unusedSimpArgs false
set_option linter.unusedVariables false
set_option maxRecDepth 100000
open Go.RowKit Go.Shelf
/- Sorts by short keys; the chapter's automaton. -/
open Go.Maps
theorem byL_fst (ss : List Nst) : ∀ c, byL ss c = (fst1 (byK ss) c).map (byF ss)
  | 0 => rfl
  | c + 1 => by
    rw [byL, fst1]
    by_cases h : byK ss c ∈ seen (byK ss) c
    · rw [if_pos h, if_pos h]; exact byL_fst ss c
    · rw [if_neg h, if_neg h, List.map_append, byL_fst ss c]; rfl
theorem byF_lt {ss : List Nst} {c x : Nat} (h : byF ss c x = true) : x < ss.length := by
  unfold byF at h
  cases e : ss[x]? with
  | none => rw [e] at h; cases h
  | some s => exact (List.getElem?_eq_some_iff.1 e).1
def byS (ss : List Nst) (c : Nat) : List Bool := (List.range ss.length).map (byF ss c)
theorem byS_iff {ss : List Nst} (hn : ss.length ≤ 4096) (c d : Nat) : byK ss c = byK ss d ↔ byS ss c = byS ss d := by
  unfold byK byS
  rw [kS_iff, List.map_inj_left]
  constructor
  · intro h x hx
    exact h x (by have := List.mem_range.1 hx; omega)
  · intro h x hx
    by_cases e : x < ss.length
    · exact h x (List.mem_range.2 e)
    · have h1 : ∀ c, byF ss c x = false := fun c => by
        cases h2 : byF ss c x with
        | false => rfl
        | true => exact absurd (byF_lt h2) e
      rw [h1, h1]
theorem soF_S {ss : List Nst} (hn : ss.length ≤ 4096) {c : Nat} (hc : c < 256) : soF ss c = idx (seen (byS ss) 256) (byS ss c) := by
  have h := (seen_eqv (k1 := byK ss) (k2 := byS ss) (m := 256) (fun c d _ _ => byS_iff hn c d)).2 c hc
  unfold soF
  exact h
theorem byL_S {ss : List Nst} (hn : ss.length ≤ 4096) : byL ss 256 = (fst1 (byS ss) 256).map (byF ss) := by
  have h := fst1_eqv (k1 := byK ss) (k2 := byS ss) (m := 256) (fun c d _ _ => byS_iff hn c d) 256 (Nat.le_refl _)
  rw [byL_fst, h]
theorem sop_of {st : Int} {ss : List Nst} (h : chkN st ss = 0) : SoP ss (byL ss 256) := by
  obtain ⟨hn, -, -, hi, hto, -⟩ := chk_facts h
  have hb : ∀ s (hs : s < (byL ss 256).length), ∃ j, (byL ss 256)[s] = byF ss j := fun s hs => by
    obtain ⟨j, -, e⟩ := byL_mem ss 256 _ (List.getElem_mem hs)
    exact ⟨j, e⟩
  refine ⟨hn, fun s hs x _ hx => ?_, fun f s hs => ?_⟩
  · obtain ⟨j, e⟩ := hb s hs
    rw [e] at hx
    exact byF_lt hx
  · obtain ⟨j, e⟩ := hb s hs
    rw [e]
    have h2 := gl_ok (ss := ss) ((List.range 4096).filter fun x => f x && byF ss j x) [] .nil (by simp) (fun x hx => by
      rw [List.mem_filter] at hx
      have h3 := hx.2
      simp only [Bool.and_eq_true] at h3
      have h4 := byF_lt h3.2
      have h5 := h3.2
      unfold byF at h5
      unfold toN
      rw [List.getElem?_eq_getElem h4] at h5 ⊢
      simp only [Bool.and_eq_true, decide_eq_true_eq] at h5 ⊢
      have := hto _ (List.getElem_mem h4)
      omega)
    exact goF_ltI hi h2.1 h2.2
/-- A set of the bytes from one up to another one. -/
def uR (lo hi : Nat) : Nat → Int := fun i => (W (fun b => decide (lo ≤ b) && decide (b ≤ hi) && decide (b < 256)) i : Nat)
theorem uR_has (lo hi : Nat) {c : Nat} (hc : c < 256) : hasU (uR lo hi) (UInt8.ofNat c) = (decide (lo ≤ c) && decide (c ≤ hi)) := by
  have e : (UInt8.ofNat c).toNat = c := by simp; omega
  unfold hasU uR
  rw [e, Int.toNat_natCast, W_test _ _ _ (by omega), show 64 * (c / 64) + c % 64 = c by omega]
  simp [hc]
/-- The chapter's automaton A. -/
def ssA : List Nst := [⟨fun _ => 0, -1, [1, 4], -1⟩, ⟨uR 105 105, 2, [], -1⟩, ⟨uR 102 102, 3, [], -1⟩, ⟨fun _ => 0, -1, [], 0⟩, ⟨uR 97 122, 5, [], -1⟩, ⟨fun _ => 0, -1, [4], 1⟩]
def kA (c : Nat) : List Bool := [false, decide (c = 105), decide (c = 102), false, decide (97 ≤ c) && decide (c ≤ 122), false]
theorem byF_A {c : Nat} (hc : c < 256) : ∀ x, byF ssA c x = (kA c).getD x false
  | 0 => rfl
  | 1 => by show (decide (0 ≤ (2 : Int)) && hasU (uR 105 105) (UInt8.ofNat c)) = decide (c = 105); rw [uR_has _ _ hc, Bool.eq_iff_iff]; simp; omega
  | 2 => by show (decide (0 ≤ (3 : Int)) && hasU (uR 102 102) (UInt8.ofNat c)) = decide (c = 102); rw [uR_has _ _ hc, Bool.eq_iff_iff]; simp; omega
  | 3 => rfl
  | 4 => by show (decide (0 ≤ (5 : Int)) && hasU (uR 97 122) (UInt8.ofNat c)) = (decide (97 ≤ c) && decide (c ≤ 122)); rw [uR_has _ _ hc]; simp
  | 5 => rfl
  | x + 6 => by
    cases h : byF ssA c (x + 6) with
    | true => have h2 : x + 6 < 6 := byF_lt h; omega
    | false => simp [kA]
theorem byS_A {c : Nat} (hc : c < 256) : byS ssA c = kA c := by
  unfold byS
  show [byF ssA c 0, byF ssA c 1, byF ssA c 2, byF ssA c 3, byF ssA c 4, byF ssA c 5] = _
  simp only [byF_A hc]
  rfl
theorem fstA : fst1 kA 256 = [0, 97, 102, 105] := by decide +kernel
end Go.Proofs.YthglciccejholaaDoor
end
section
/- Package dfa. -/
namespace Go.Proofs.YthglciccejholaaDoor
set_option linter.unusedSimpArgs false
set_option linter.unusedVariables false
set_option maxRecDepth 100000
open Go.RowKit Go.Shelf
/- What Of answers of the chapter's automaton. -/
open Go.Maps
def setsA : List (List Nat) := [[0, 1, 4], [5, 4], [2, 5, 4], [3, 5, 4]]
def rowsA : List (List Int) := [[-1, 1, 1, 2], [-1, 1, 1, 1], [-1, 1, 3, 1], [-1, 1, 1, 1]]
def byA : List (Nat → Bool) := [0, 97, 102, 105].map fun c x => (kA c).getD x false
theorem liveA : liveL ssA = [3, 5, 2, 4, 1, 0] := by decide +kernel
theorem fst_A : fst1 (byS ssA) 256 = [0, 97, 102, 105] := by
  rw [← fstA]
  exact fst1_eqv (m := 256) (fun c d hc hd => by rw [byS_A hc, byS_A hd]) 256 (Nat.le_refl _)
theorem byL_A : byL ssA 256 = byA := by
  rw [byL_S (by decide), fst_A]
  have h : ∀ c, c < 256 → byF ssA c = fun x => (kA c).getD x false := fun c hc => funext (byF_A hc)
  show [byF ssA 0, byF ssA 97, byF ssA 102, byF ssA 105] = _
  rw [h 0 (by decide), h 97 (by decide), h 102 (by decide), h 105 (by decide)]
  rfl
theorem chk_A : chkN 0 ssA = 0 := by decide +kernel
theorem fnA : fnFk ssA (mb [3, 5, 2, 4, 1, 0]) byA 2050 0 [goF ssA 7 0 [0]] [] = (true, setsA, rowsA) := by decide +kernel
theorem ofF_A : ofF 0 ssA = (true, setsA, rowsA) := by
  have h1 := fnF_k (sop_of chk_A) (mb (liveL ssA)) 2050 0 [goF ssA 7 0 [0]] [] (by decide +kernel)
  unfold ofF
  rw [show ssA.length + 1 = 7 from rfl, show (0 : Int).toNat = 0 from rfl, h1, byL_A, liveA, fnA]
def cqA (c : Nat) : Nat := idx (seen kA 256) (kA c)
theorem soF_A {c : Nat} (hc : c < 256) : soF ssA c = cqA c := by
  have h := (seen_eqv (k1 := byS ssA) (k2 := kA) (m := 256) (fun c d hc hd => by rw [byS_A hc, byS_A hd])).2 c hc
  rw [soF_S (by decide) hc]
  exact h
theorem seenA : seen kA 256 = [kA 0, kA 97, kA 102, kA 105] := by rw [← fst1_map, fstA]; rfl
theorem cqA_lt {c : Nat} (hc : c < 256) : cqA c < 4 := by
  have h := idx_lt (seen_mem kA 256 c hc)
  have e : (seen kA 256).length = 4 := by rw [seenA]; rfl
  unfold cqA; omega
theorem colA_inj : ∀ a b : Nat, a < 4 → b < 4 → (rowsA.map fun r => r.getD a 0) = (rowsA.map fun r => r.getD b 0) → a = b := by
  have h : ∀ a : Fin 4, ∀ b : Fin 4, (rowsA.map fun r => r.getD a.val 0) = (rowsA.map fun r => r.getD b.val 0) → a = b := by decide +kernel
  intro a b ha hb e
  exact Fin.mk.inj_iff.1 (h ⟨a, ha⟩ ⟨b, hb⟩ e)
theorem colA (c d : Nat) (hc : c < 256) (hd : d < 256) : colF (soF ssA) rowsA c = colF (soF ssA) rowsA d ↔ kA c = kA d := by
  unfold colF
  rw [soF_A hc, soF_A hd]
  constructor
  · intro h
    have h2 := colA_inj _ _ (cqA_lt hc) (cqA_lt hd) h
    exact idx_inj (seen_mem kA 256 c hc) h2
  · intro h
    have : cqA c = cqA d := by unfold cqA; rw [h]
    rw [this]
theorem cqA_at : cqA 0 = 0 ∧ cqA 97 = 1 ∧ cqA 102 = 2 ∧ cqA 105 = 3 ∧ cqA 55 = 0 := by
  unfold cqA
  rw [seenA]
  decide +kernel
theorem row_A (cl : Nat → Nat) (hcl : ∀ c, c < 256 → cl c = cqA c) (row : List Int) (h : row.length = 4) : nxF cl (soF ssA) row 4 256 = row := by
  have hg := nxF_get cl (soF ssA) row 4 (fun c hc => by rw [hcl c hc]; exact cqA_lt hc) (fun c d hc hd e => by rw [soF_A hc, soF_A hd, ← hcl c hc, ← hcl d hd, e]) 256 (Nat.le_refl _)
  have hl := nxF_len cl (soF ssA) row 4 256
  obtain ⟨e0, e1, e2, e3, -⟩ := cqA_at
  have g0 := hg 0 (by decide)
  have g1 := hg 97 (by decide)
  have g2 := hg 102 (by decide)
  have g3 := hg 105 (by decide)
  rw [soF_A (by decide), hcl _ (by decide), e0] at g0
  rw [soF_A (by decide), hcl _ (by decide), e1] at g1
  rw [soF_A (by decide), hcl _ (by decide), e2] at g2
  rw [soF_A (by decide), hcl _ (by decide), e3] at g3
  generalize nxF cl (soF ssA) row 4 256 = r at *
  match r, row, hl, h, g0, g1, g2, g3 with
  | [a, b, c, d], [a', b', c', d'], _, _, g0, g1, g2, g3 =>
    simp [List.getD] at g0 g1 g2 g3
    rw [g0, g1, g2, g3]
theorem rl_A (l : List Nat) (hl : ∀ x ∈ l, x < 6) : lstR ssA ((List.range 4096).filter (mb l)) = lstR ssA ((List.range 6).filter (mb l)) := by
  rw [range_cut (show 6 ≤ 4096 by decide) fun x _ hx => hl x ((mb_iff l x).1 hx)]
/-- What Of answers of A. -/
structure IsA (d : Df) : Prop where
  st : d.st = 0
  nx : d.nx = rowsA
  rl : d.rl = [-1, 1, 1, 0]
  cl : ∀ c, c < 256 → d.cl c = cqA c
theorem ofD_A : (ofD 0 ssA).2 = 0 ∧ IsA (ofD 0 ssA).1 := by
  have hc := clsG_col (soF ssA) (rows := rowsA) (by decide) kA colA
  have e4 : (seen kA 256).length = 4 := by rw [seenA]; rfl
  have hD : ofD 0 ssA = (autX (soF ssA) ssA setsA rowsA, 0) := by
    unfold ofD
    rw [chk_A, if_neg (by decide), ofF_A, if_pos rfl]
  rw [hD]
  have hcl : ∀ c, c < 256 → (autX (soF ssA) ssA setsA rowsA).cl c = cqA c := fun c hcc => by
    unfold autX cqA
    simp only
    rw [hc.1 c hcc]
  refine ⟨rfl, rfl, ?_, ?_, hcl⟩
  · unfold autX
    simp only
    have hc2 := hc.2
    have hc1 := hc.1
    rw [e4] at hc2
    generalize clsG (soF ssA) rowsA (fun _ => 0, 0) = g at *
    obtain ⟨cl, m⟩ := g
    simp only at hc1 hc2
    subst hc2
    have hr := row_A cl hc1
    show [nxF cl (soF ssA) [-1, 1, 1, 2] 4 256, nxF cl (soF ssA) [-1, 1, 1, 1] 4 256, nxF cl (soF ssA) [-1, 1, 3, 1] 4 256, nxF cl (soF ssA) [-1, 1, 1, 1] 4 256] = rowsA
    rw [hr _ rfl, hr _ rfl, hr _ rfl]
    rfl
  · unfold autX
    show [lstR ssA ((List.range 4096).filter (mb [0, 1, 4])), lstR ssA ((List.range 4096).filter (mb [5, 4])), lstR ssA ((List.range 4096).filter (mb [2, 5, 4])), lstR ssA ((List.range 4096).filter (mb [3, 5, 4]))] = _
    rw [rl_A _ (by decide), rl_A _ (by decide), rl_A _ (by decide), rl_A _ (by decide)]
    decide +kernel
end Go.Proofs.YthglciccejholaaDoor
end
section
/- Package dfa. -/
namespace Go.Proofs.YthglciccejholaaDoor
set_option linter.unusedSimpArgs false
set_option linter.unusedVariables false
set_option maxRecDepth 100000
open Go.RowKit Go.Shelf
/- span. -/
open Go.Maps
def w4 (f : Nat → Bool) : Array Value := #[.int .u64 (W f 0), .int .u64 (W f 1), .int .u64 (W f 2), .int .u64 (W f 3)]
theorem w4_get (f : Nat → Bool) : ∀ {i : Nat}, i < 4 → (w4 f)[i]? = some (.int .u64 (W f i))
  | 0, _ => rfl
  | 1, _ => rfl
  | 2, _ => rfl
  | 3, _ => rfl
theorem w4_put (f : Nat → Bool) {s : Nat} (hs : s < 256) : (w4 f).setIfInBounds (s / 64) (.int .u64 (W (fun x => f x || x == s) (s / 64))) = w4 (fun x => f x || x == s) := by
  apply Array.ext_getElem?
  intro i
  by_cases hi : i < 4
  · rw [w4_get _ hi, Array.getElem?_setIfInBounds]
    split
    · rename_i e
      subst e
      rw [if_pos (by show _ < 4; omega)]
    · rename_i e
      rw [w4_get _ hi, W_skip f i s (fun k hk => by omega)]
  · rw [Array.getElem?_eq_none (by rw [Array.size_setIfInBounds]; show 4 ≤ i; omega), Array.getElem?_eq_none (by show 4 ≤ i; omega)]
theorem info24s : (Tryd.prog.info? 24).map (fun i => (i.zero, i.size)) = some (some (.agg #[.int .u64 0, .int .u64 0, .int .u64 0, .int .u64 0]), 4) := by kernel_rfl
theorem info24t : (Tryd.prog.info? 24).map (·.size) = some 4 := by kernel_rfl
def fS (lo c x : Nat) : Bool := decide (lo ≤ x) && decide (x < c) && decide (x < 256)
theorem fS_step {lo c : Nat} (h : lo ≤ c) (hc : c < 256) : (fun x => fS lo c x || x == c) = fS lo (c + 1) := by
  funext x
  unfold fS
  rw [Bool.eq_iff_iff]
  simp
  omega
theorem fS_zero (lo : Nat) : w4 (fS lo lo) = #[.int .u64 0, .int .u64 0, .int .u64 0, .int .u64 0] := by
  have h : fS lo lo = fun _ => false := by funext x; unfold fS; rw [Bool.eq_iff_iff]; simp; omega
  rw [h]
  unfold w4
  rw [W_no, W_no, W_no, W_no]
  rfl
theorem fS_end (lo hi : Nat) : .agg (w4 (fS lo (hi + 1))) = uV (uR lo hi) := by
  have h : fS lo (hi + 1) = fun b => decide (lo ≤ b) && decide (b ≤ hi) && decide (b < 256) := by funext x; unfold fS; rw [Bool.eq_iff_iff]; simp; omega
  rw [h]
  rfl
set_option maxHeartbeats 8000000 in
theorem span_any {w : World} {lo hi : Nat} (hle : lo ≤ hi) (hhi : hi < 256) :
    Calls Tryd.prog 92 #[.int .u8 (lo : Nat), .int .u8 (hi : Nat)] w fun e w' => e = .returned (uV (uR lo hi)) ∧ Below w.heap.size w w' := by
  have hz := (zero_of_info info24s).1
  obtain ⟨b4, hb4⟩ : ∃ b, w.heap.size = b := ⟨_, rfl⟩
  have S0 := Lib.hid ((Sep.start w).allocAt hb4 (.cells #[.int .u64 0, .int .u64 0, .int .u64 0, .int .u64 0] 24))
  obtain ⟨b5, hb5⟩ : ∃ b, (w.alloc (.cells #[.int .u64 0, .int .u64 0, .int .u64 0, .int .u64 0] 24)).heap.size = b := ⟨_, rfl⟩
  have S1 := Lib.hid (S0.out.allocAt hb5 (.cells #[.int .u64 0, .int .u64 0, .int .u64 0, .int .u64 0] 24))
  have hb3 : b4 + 1 = b5 := by rw [← hb4, ← hb5]; simp
  have hwl : IntKind.i64.wrap (lo : Int) = (lo : Int) := IntWalk.i64_in _ (by omega)
  have hwh : IntKind.i64.wrap (hi : Int) = (hi : Int) := IntWalk.i64_in _ (by omega)
  go_enter Tryd.func92, Tryd.ntmps92
  go_upto_region 2 with fail
  refine at_world (fun v => Sep w.heap.size w v [.box b5 (.cells (w4 (fS lo lo)) 24), .box b4 (.cells #[.int .u64 0, .int .u64 0, .int .u64 0, .int .u64 0] 24)]) (by rw [fS_zero]; exact S1.out) fun y1 hy1 => ?_
  try simp only [hb3]
  have S2 := Lib.hid hy1
  clear S0 S1 hy1 hb4 hb5 hb3 hz
  go_wp2_with fail
  go_loopw [6] (fun i wr => ∃ c : Nat, i = .int .i64 (c : Nat) ∧ lo ≤ c ∧ c ≤ hi + 1 ∧ Hid (Sep w.heap.size w wr [.box b5 (.cells (w4 (fS lo c)) 24), .box b4 (.cells #[.int .u64 0, .int .u64 0, .int .u64 0, .int .u64 0] 24)])) (fun i _ => hi + 1 - (intOf i).toNat)
  case atStart => exact ⟨lo, rfl, by omega, by omega, S2⟩
  case round =>
    clear S2
    obtain ⟨s, rfl, hs1, hs2, HS⟩ := hrel
    obtain ⟨Z, rfl⟩ : ∃ W : World, W = wr := ⟨_, rfl⟩
    by_cases hlt : s ≤ hi
    · have hltI : (s : Int) ≤ (hi : Int) := by omega
      have hr := W_with (fS lo s) (s / 64) (s % 64) (Nat.mod_lt _ (by omega))
      rw [Nat.div_add_mod, fS_step hs1 (by omega)] at hr
      have hS2 := (HS.out.drew).setc (s / 64) (.int .u64 (W (fun x => fS lo s x || x == s) (s / 64)))
      rw [w4_put _ (by omega), fS_step hs1 (by omega)] at hS2
      have SC := Lib.hid hS2
      generalize hv : ((W (fS lo (s + 1)) (s / 64) : Nat) : Int) = v at hr SC
      have h1 : ¬ (s : Int) / 64 < 0 := by omega
      have h1' : 0 ≤ (s : Int) / 64 := by omega
      have h2 : (s : Int) / 64 < 4 := by omega
      have h3 : ((s : Int) / 64).toNat = s / 64 := by omega
      have h4 : ((s : Int) % 64).toNat = s % 64 := by omega
      have hc' : Z.drew.cell? ⟨b5, s / 64, none⟩ = some (.int .u64 (W (fS lo s) (s / 64))) := (HS.out.drew.boxAt (s / 64)).trans (w4_get _ (by omega))
      have hf' : Z.drew.frozen? ⟨b5, s / 64, none⟩ = false := HS.out.drew.fz _
      clear hv hS2
      have i1 : IntKind.i64.wrap ((s : Int) / 64) = (s : Int) / 64 := IntWalk.i64_in _ (by omega)
      have i2 : IntKind.i64.wrap ((s : Int) % 64) = (s : Int) % 64 := IntWalk.i64_in _ (by omega)
      have h5 : (s : Int).tmod 64 = (s : Int) % 64 := Int.tmod_eq_emod_of_nonneg (by omega)
      have h6 : ¬ (s : Int) % 64 < 0 := by omega
      have h7 : 0 ≤ (s : Int) % 64 := by omega
      have h8 : (s : Int) % 64 < 64 := by omega
      go_upto_region 5 with fail
      go_still_tail 11, (by kernel_rfl)
      change wpList _ _ _ _ _ Z.drew
      go_wp2_with fail
      go_roundw
      case rel => exact ⟨s + 1, by go_num, by omega, by omega, SC⟩
      case measure => first | (simp [intOf]; done) | (simp [intOf]; omega)
    · obtain rfl : s = hi + 1 := by omega
      have hltI : ¬ ((hi + 1 : Nat) : Int) ≤ (hi : Int) := by omega
      have HB5 := Lib.hid HS.out.at.2
      have HB4 := Lib.hid HS.out.tl.at.2
      have e5 := fS_end lo hi
      obtain ⟨R, hR⟩ : ∃ R, w4 (fS lo (hi + 1)) = R := ⟨_, rfl⟩
      have hRs : R.size = 4 := by rw [← hR]; rfl
      have hRo : R.all (·.oneCell') = true := by rw [← hR]; simp [w4, Value.oneCell']
      rw [hR] at HB5 HS e5
      have E5 := Lib.hid e5
      clear e5 hR
      go_wp2_with (first | (refine wpList_load_row rfl 24 (.tmp 5) rfl b5 rfl 24 R (0, 0) _ HB5.out Tryd.underlying24 rfl (by rw [info24t, hRs]) ?_) | (refine wpList_store_row rfl 24 (.tmp 4) (.tmp 26) rfl b4 R rfl rfl 24 _ HB4.out (by rw [info24t, hRs]) (by rw [hRs]; rfl) hRo ?_))
      refine bodyPost_ret (v := .agg R) (results_cell_row rfl _ _ b4 24 _ (0, 0) _ rfl (setRow_heap _ b4 _ _ 24 (0, 0) HB4.out) Tryd.underlying24 rfl (by rw [info24t, hRs])) rfl ⟨?_, (HS.out.tl.putRow R).bel⟩
      rw [E5.out]
end Go.Proofs.YthglciccejholaaDoor
end
