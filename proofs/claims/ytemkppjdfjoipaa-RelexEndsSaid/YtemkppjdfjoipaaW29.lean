/- Texts of package regs, one behind the other. -/
import Derived.Test.YtemkppjdfjoipaaProg
import Derived.Test.YtemkppjdfjoipaaW28
import Derived.Deep.SlicePairs
import Derived.Deep.Slices
import Derived.Laws.IdiomArrays
import Derived.OpenShut
import Derived.WideBlind
import Derived.Great.BuildSlice
import Derived.WalkKit
import Derived.Maps.OwnSet
import Derived.Maps.OwnOps
import Derived.Maps.Own
import Derived.DeepKeys5
import Derived.BigFrame
import Derived.WalkMore
import Derived.ScopeJumps
import Derived.StillTailTactics
import Derived.Stop.BytesEq
import Derived.WalkLawsBesides
import Derived.WalkSpells
import Derived.Outline
import Derived.Lib.Walk
import Derived.Lib.Hide
import Derived.Lib.Slices
import Derived.Lib.Strings
import Derived.RegionTactic
import Derived.LoopTactic
import Derived.Below
import Derived.IntWalk
import Derived.Deep.QuietTactic
import Derived.BigQuiet
import Derived.Deep.MidRow
import Derived.Maps.AppendAt
import Derived.Laws.Rows
import Derived.Laws.Tables
import Derived.Deep.WholeRow
import Derived.Deep.Cut
import Derived.Deep.CutRange
import Derived.Lib.SliceRun
import Derived.Laws.MakeOwn
import Derived.Deep.RegionLaw
import Derived.Deep.RegionLawGrows
import Derived.Deep.RegionHeld3
import Derived.RegionCalls
import Derived.Deep.RegionWith
import Derived.Deep.Light
import Derived.Laws.CopyOwn
import Derived.Laws.ResultCell
section
/- Package relex. -/
namespace Go.Proofs.Ytemkppjdfjoipaa.I1.X
set_option linter.unusedSimpArgs false
set_option linter.unusedVariables false
set_option maxRecDepth 100000
open Go.RowKit
open Go.Maps
/- newScanner: cells. -/
abbrev zD26 : Array Value := Go.Proofs.Ytemkppjdfjoipaa.zero26
theorem zD26_size : zD26.size = 259 := Go.Proofs.Ytemkppjdfjoipaa.zero26_size
def cA (f : Nat → Nat) : Array Value := Array.ofFn fun i : Fin 256 => .int .u8 (f i.val : Nat)
theorem cA_size (f : Nat → Nat) : (cA f).size = 256 := by simp [cA]
theorem cA_get (f : Nat → Nat) {i : Nat} (h : i < 256) : (cA f)[i]? = some (.int .u8 (f i : Nat)) := by simp [cA, Array.getElem?_ofFn, h]
theorem zip_put (off : Nat) : ∀ (l : List Value) (k : Nat) (cs : Array Value), (l.zipIdx k).foldl (fun cs (x : Value × Nat) => cs.setIfInBounds (off + x.2) x.1) cs = putA cs (off + k) l
  | [], _, _ => rfl
  | v :: l, k, cs => by
    rw [List.zipIdx_cons, List.foldl_cons, zip_put off l (k + 1)]
    rfl
def dN (st : Int) (f : Nat → Nat) (r : Value) : Array Value := (putA (zD26.setIfInBounds 0 (.int .i64 st)) 1 (cA f).toList).setIfInBounds 258 r
theorem dN_size (st : Int) (f : Nat → Nat) (r : Value) : (dN st f r).size = 259 := by unfold dN; rw [Array.size_setIfInBounds, putA_size, Array.size_setIfInBounds]; exact zD26_size
theorem dN_get (st : Int) (f : Nat → Nat) (r : Value) (j : Nat) : (dN st f r)[j]? = if j = 258 then some r else if 1 ≤ j ∧ j < 257 then some (.int .u8 (f (j - 1) : Nat)) else if j = 0 then some (.int .i64 st) else zD26[j]? := by
  have hs : (putA (zD26.setIfInBounds 0 (.int .i64 st)) 1 (cA f).toList).size = 259 := by rw [putA_size, Array.size_setIfInBounds]; exact zD26_size
  have hp := putA_get (cA f).toList (zD26.setIfInBounds 0 (.int .i64 st)) 1 j (by rw [Array.size_setIfInBounds, zD26_size, Array.length_toList, cA_size]; omega)
  unfold dN
  rw [Array.getElem?_setIfInBounds]
  by_cases h : j = 258
  · subst h; rw [if_pos rfl, if_pos (by rw [hs]; omega), if_pos rfl]
  · rw [if_neg (fun e => h e.symm), if_neg h, hp, Array.length_toList, cA_size]
    by_cases h1 : 1 ≤ j ∧ j < 1 + 256
    · rw [if_pos h1, if_pos (by omega), Array.getElem?_toList, cA_get f (by omega)]
    · rw [if_neg h1, if_neg (by omega), Array.getElem?_setIfInBounds]
      by_cases h0 : j = 0
      · subst h0; rw [if_pos rfl, if_pos (by rw [zD26_size]; omega), if_pos rfl]
      · rw [if_neg (fun e => h0 e.symm), if_neg h0]
theorem z_get {Z : Array Value} (hZ : Z.size = 259) (a b : Value) : (#[a] ++ Z ++ #[b])[0]? = some a ∧ (#[a] ++ Z ++ #[b])[260]? = some b := by
  constructor
  · rw [Array.getElem?_append_left (by rw [Array.size_append]; simp; omega), Array.getElem?_append_left (by simp)]; rfl
  · rw [Array.getElem?_append_right (by rw [Array.size_append, hZ]; simp), Array.size_append, hZ]; simp
def sZ (ds : Array Value) : Array Value := putA (#[.slice none 0 0] ++ zD26 ++ #[.slice none 0 0]) 1 ds.toList
theorem z136_size : (#[Value.slice none 0 0] ++ zD26 ++ #[Value.slice none 0 0] : Array Value).size = 261 := by rw [Array.size_append, Array.size_append, zD26_size]; rfl
theorem sZ_size (ds : Array Value) : (sZ ds).size = 261 := by unfold sZ; rw [putA_size]; exact z136_size
theorem sZ_get {ds : Array Value} (hs : ds.size = 259) (j : Nat) : (sZ ds)[j]? = if 1 ≤ j ∧ j < 260 then ds[j - 1]? else if j = 0 ∨ j = 260 then some (.slice none 0 0) else none := by
  unfold sZ
  rw [putA_get _ _ _ _ (by rw [z136_size, Array.length_toList, hs]; omega), Array.length_toList, hs]
  by_cases h : 1 ≤ j ∧ j < 1 + 259
  · rw [if_pos h, if_pos (by omega), Array.getElem?_toList]
  · rw [if_neg h, if_neg (by omega)]
    by_cases h0 : j = 0
    · subst h0; rw [if_pos (Or.inl rfl)]; exact (z_get zD26_size _ _).1
    · by_cases h1 : j = 260
      · subst h1
        rw [if_pos (Or.inr rfl)]; exact (z_get zD26_size _ _).2
      · rw [if_neg (by omega), Array.getElem?_eq_none (by rw [z136_size]; omega)]
/-- A scanner's cells: kinds, where each state leads, whether it goes on. -/
def scA (A : Array Value) (k n o : Value) : Array Value := ((A.setIfInBounds 0 k).setIfInBounds 258 n).setIfInBounds 260 o
theorem scA_size (A : Array Value) (k n o : Value) : (scA A k n o).size = A.size := by simp [scA]
theorem scA_get {A : Array Value} (h : A.size = 261) (k n o : Value) (j : Nat) : (scA A k n o)[j]? = if j = 260 then some o else if j = 258 then some n else if j = 0 then some k else A[j]? := by
  unfold scA
  rw [Array.getElem?_setIfInBounds, Array.getElem?_setIfInBounds, Array.getElem?_setIfInBounds]
  simp only [Array.size_setIfInBounds, h]
  by_cases h1 : j = 260
  · subst h1; simp
  · rw [if_neg (fun e => h1 e.symm), if_neg h1]
    by_cases h2 : j = 258
    · subst h2; simp
    · rw [if_neg (fun e => h2 e.symm), if_neg h2]
      by_cases h3 : j = 0
      · subst h3; simp
      · rw [if_neg (fun e => h3 e.symm), if_neg h3]
theorem scA_k {A : Array Value} (h : A.size = 261) (k n o k' : Value) : (scA A k n o).setIfInBounds 0 k' = scA A k' n o := by
  apply Array.ext_getElem?
  intro j
  rw [Array.getElem?_setIfInBounds, scA_size, h, scA_get h, scA_get h]
  by_cases h1 : j = 0
  · subst h1; simp
  · rw [if_neg (fun e => h1 e.symm), if_neg h1, if_neg h1]
theorem scA_n {A : Array Value} (h : A.size = 261) (k n o n' : Value) : (scA A k n o).setIfInBounds 258 n' = scA A k n' o := by
  apply Array.ext_getElem?
  intro j
  rw [Array.getElem?_setIfInBounds, scA_size, h, scA_get h, scA_get h]
  by_cases h1 : j = 258
  · subst h1; simp
  · rw [if_neg (fun e => h1 e.symm), if_neg h1, if_neg h1]
theorem scA_o {A : Array Value} (h : A.size = 261) (k n o o' : Value) : (scA A k n o).setIfInBounds 260 o' = scA A k n o' := by
  apply Array.ext_getElem?
  intro j
  rw [Array.getElem?_setIfInBounds, scA_size, h, scA_get h, scA_get h]
  by_cases h1 : j = 260
  · subst h1; simp
  · rw [if_neg (fun e => h1 e.symm), if_neg h1, if_neg h1]
theorem sZ_sc {ds : Array Value} (hs : ds.size = 259) (hn : ds[257]? = some (.slice none 0 0)) : sZ ds = scA (sZ ds) (.slice none 0 0) (.slice none 0 0) (.slice none 0 0) := by
  apply Array.ext_getElem?
  intro j
  rw [scA_get (sZ_size ds), sZ_get hs]
  by_cases h1 : j = 260
  · subst h1; simp
  · rw [if_neg h1]
    by_cases h2 : j = 258
    · subst h2; simp [hn]
    · rw [if_neg h2]
      by_cases h3 : j = 0
      · subst h3; simp
      · rw [if_neg h3]
theorem built61 (parts : List (Nat × Value)) : Try.prog.built 61 parts = Instr.fill (fun i => ([(0, 1), (1, 256), (257, 1), (258, 1)] : List (Nat × Nat)).toArray[i]?) zD26 parts := by kernel_rfl
theorem built136 (parts : List (Nat × Value)) : Try.prog.built 136 parts = Instr.fill (fun i => ([(0, 1), (1, 259), (260, 1)] : List (Nat × Nat)).toArray[i]?) (#[.slice none 0 0] ++ zD26 ++ #[.slice none 0 0]) parts := by kernel_rfl
theorem fold1 (Z : Array Value) (v : Value) : Array.foldl (fun (cs : Array Value) (x : Value × Nat) => cs.setIfInBounds (0 + x.2) x.1) Z (#[v].zipIdx) = Z.setIfInBounds 0 v := by simp
theorem built61d (st : Int) (f : Nat → Nat) (p : Option Addr) (n c : Nat) : Try.prog.built 61 [(0, .int .i64 st), (1, .agg (cA f)), (3, .slice p n c)] = some (dN st f (.slice p n c)) := by
  rw [built61]
  have hc : (Value.agg (cA f)).cells = cA f := rfl
  have hc0 : (Value.int .i64 st).cells = #[.int .i64 st] := rfl
  have hc3 : (Value.slice p n c).cells = #[.slice p n c] := rfl
  have h0 : (List.toArray [((0 : Nat), (1 : Nat)), (1, 256), (257, 1), (258, 1)])[0]? = some (0, 1) := rfl
  have h1 : (List.toArray [((0 : Nat), (1 : Nat)), (1, 256), (257, 1), (258, 1)])[1]? = some (1, 256) := rfl
  have h3 : (List.toArray [((0 : Nat), (1 : Nat)), (1, 256), (257, 1), (258, 1)])[3]? = some (258, 1) := rfl
  have hz := zD26_size
  unfold Instr.fill
  simp only [h0, hc0]
  rw [if_neg (by simp [hz])]
  unfold Instr.fill
  simp only [h1, hc, cA_size]
  rw [if_neg (by simp [hz])]
  unfold Instr.fill
  simp only [h3, hc3]
  have e1 : (Array.foldl (fun cs x => cs.setIfInBounds (1 + x.2) x.1) (Array.foldl (fun cs x => cs.setIfInBounds (0 + x.2) x.1) zD26 (#[Value.int .i64 st].zipIdx)) (cA f).zipIdx) = putA (zD26.setIfInBounds 0 (.int .i64 st)) 1 (cA f).toList := by
    rw [fold1, ← Array.foldl_toList, Array.toList_zipIdx]
    have := zip_put 1 (cA f).toList 0 (zD26.setIfInBounds 0 (.int .i64 st))
    exact this
  rw [e1]
  have hA : (putA (zD26.setIfInBounds 0 (.int .i64 st)) 1 (cA f).toList).size = 259 := by rw [putA_size, Array.size_setIfInBounds, hz]
  unfold dN
  obtain ⟨A, hA2⟩ : ∃ A, putA (zD26.setIfInBounds 0 (.int .i64 st)) 1 (cA f).toList = A := ⟨_, rfl⟩
  rw [hA2] at hA ⊢
  rw [if_neg (by simp [hA])]
  unfold Instr.fill
  simp
theorem built136d {ds : Array Value} (hs : ds.size = 259) : Try.prog.built 136 [(1, .agg ds)] = some (sZ ds) := by
  rw [built136]
  have hc : (Value.agg ds).cells = ds := rfl
  have h1 : (List.toArray [((0 : Nat), (1 : Nat)), (1, 259), (260, 1)])[1]? = some (1, 259) := rfl
  have hz := z136_size
  unfold Instr.fill
  simp only [h1, hc, hs]
  rw [if_neg (by rw [hz]; decide)]
  unfold Instr.fill sZ
  rw [← Array.foldl_toList, Array.toList_zipIdx]
  exact congrArg some (zip_put 1 ds.toList 0 _)
theorem dN_one (st : Int) (f : Nat → Nat) (p : Option Addr) (n c : Nat) : ∀ v ∈ dN st f (.slice p n c), v.oneCell' = true := by
  intro v hv
  obtain ⟨j, hj, rfl⟩ := Array.getElem_of_mem hv
  have h := dN_get st f (.slice p n c) j
  have hd := dN_size st f (.slice p n c)
  rw [Array.getElem?_eq_getElem hj] at h
  generalize dN st f (.slice p n c) = A at *
  rw [hd] at hj
  have e : zD26[257]? = some (.slice none 0 0) := by kernel_rfl
  generalize zD26 = Z at *
  rcases (by omega : j = 258 ∨ (1 ≤ j ∧ j < 257) ∨ j = 0 ∨ j = 257) with e1 | e1 | e1 | e1
  · rw [if_pos e1] at h; injection h with h; rw [h]; rfl
  · rw [if_neg (by omega), if_pos e1] at h; injection h with h; rw [h]; rfl
  · rw [if_neg (by omega), if_neg (by omega), if_pos e1] at h; injection h with h; rw [h]; rfl
  · subst e1; rw [if_neg (by omega), if_neg (by omega), if_neg (by omega), e] at h; injection h with h; rw [h]; rfl
/-- The rules' cells. -/
def KR (D : Nat → Prop) (w : World) (kl : List Int) (q : Option Addr) : Prop := kl ≠ [] → ∃ b o, q = some ⟨b, o, none⟩ ∧ D b ∧ ∀ j (h : j < kl.length), ∃ (k u0 u1 u2 u3 : Int) (p : Option Addr) (n c : Nat),
  w.cell? ⟨b, o + j * 7, none⟩ = some (.int .i64 kl[j]) ∧ w.cell? ⟨b, o + j * 7 + 1, none⟩ = some (.int .i64 k) ∧ w.cell? ⟨b, o + j * 7 + 2, none⟩ = some (.int .u64 u0) ∧ w.cell? ⟨b, o + j * 7 + 3, none⟩ = some (.int .u64 u1) ∧ w.cell? ⟨b, o + j * 7 + 4, none⟩ = some (.int .u64 u2) ∧ w.cell? ⟨b, o + j * 7 + 5, none⟩ = some (.int .u64 u3) ∧ w.cell? ⟨b, o + j * 7 + 6, none⟩ = some (.slice p n c)
theorem KR.mono {D E : Nat → Prop} {w w' : World} (hE : ∀ b, D b → E b) (hw : ∀ b, D b → b < w.heap.size → w'.heap[b]? = w.heap[b]?) {kl : List Int} {q : Option Addr} (h : KR D w kl q) : KR E w' kl q := fun hn => by
  obtain ⟨b, o, hp, hD, hc⟩ := h hn
  refine ⟨b, o, hp, hE b hD, fun j hj => ?_⟩
  obtain ⟨k, u0, u1, u2, u3, p, n, c, h0, h1, h2, h3, h4, h5, h6⟩ := hc j hj
  have hk : ∀ o v, w.cell? ⟨b, o, none⟩ = some v → w'.cell? ⟨b, o, none⟩ = some v := fun o v h => by rw [← h]; exact cell_same (hw b hD (blk_lt h)) _
  exact ⟨k, u0, u1, u2, u3, p, n, c, hk _ _ h0, hk _ _ h1, hk _ _ h2, hk _ _ h3, hk _ _ h4, hk _ _ h5, hk _ _ h6⟩
theorem KR.kv {D : Nat → Prop} {w : World} {kl : List Int} {q : Option Addr} (h : KR D w kl q) : KV w (ksL kl) kl.length q := fun i hi => by
  obtain ⟨b, o, hp, _, hc⟩ := h (by intro e; rw [e] at hi; simp at hi)
  obtain ⟨k, u0, u1, u2, u3, p, n, c, h0, _⟩ := hc i hi
  exact ⟨b, o, hp, by rw [h0, ksL, List.getD_eq_getElem?_getD, List.getElem?_eq_getElem hi]; rfl⟩
end Go.Proofs.Ytemkppjdfjoipaa.I1.X
end
section
/- Package relex. -/
namespace Go.Proofs.Ytemkppjdfjoipaa.I1.X
set_option linter.unusedSimpArgs false
set_option linter.unusedVariables false
set_option maxRecDepth 100000
open Go.RowKit
/- newScanner's closure. -/
theorem on1 (x : Int) (w : World) : Calls Try.prog 78 #[.int .i64 x] w fun e w' => e = .returned (.bool (decide (0 ≤ x))) ∧ w' = w := by
  go_enter Try.func78, Try.ntmps78
  by_cases h : 0 ≤ x
  · have h' : ¬ x < 0 := by omega
    go_wp2_with fail
    go_ret
    exact ⟨by simp [h], rfl⟩
  · have h' : x < 0 := by omega
    go_wp2_with fail
    go_ret
    exact ⟨by simp; omega, rfl⟩
set_option maxHeartbeats 4000000 in
theorem on_index {D : Nat → Prop} {w : World} {r : List Int} {p : Option Addr} {c : Nat} (hD : ∀ b, D b → b < w.heap.size) (h : IV D w r (.slice p r.length c)) (hl : r.length ≤ 9223372036854775806) :
    Calls Try.prog 91 #[.slice p r.length c, .func (.func 78) #[] #[]] w fun e w' => ∃ k : Int, e = .returned (.int .i64 k) ∧ decide (0 ≤ k) = onRow r ∧ Below w.heap.size w w' := by
  have HIV := Lib.hid h
  have HD := Lib.hid hD
  have S0 := Lib.hid (Below.refl w.heap.size w)
  clear h hD
  go_enter Try.func91, Try.ntmps91
  go_wp2_with fail
  go_loopw [8] (fun i wr => ∃ j : Nat, i = .int .i64 (j : Nat) ∧ j ≤ r.length ∧ Hid ((r.take j).any (fun x => decide (0 ≤ x)) = false) ∧ Hid (Below w.heap.size w wr)) (fun i _ => r.length - (intOf i).toNat)
  case atStart => exact ⟨0, rfl, by omega, Lib.hid (by simp), S0⟩
  case round =>
  clear S0
  obtain ⟨j, rfl, hj, HA, HS⟩ := hrel
  by_cases hlt : j < r.length
  · obtain ⟨p', c', he, hh⟩ := HIV.out
    injection he with e1 e2 e3
    subst e1 e3
    obtain ⟨b, o, rfl, hb, hc⟩ := hh (by intro e; subst e; simp at hlt)
    have cx : wr.cell? ⟨b, o + j, none⟩ = some (.int .i64 r[j]) := (cell_same (HS.out.block b (HD.out b hb)) _).trans (hc j hlt)
    have hta : r.take (j + 1) = r.take j ++ [r[j]] := by rw [List.take_add_one, List.getElem?_eq_getElem hlt]; rfl
    have HY : Hid (0 ≤ r[j] → onRow r = true) := Lib.hid fun h => List.any_eq_true.2 ⟨r[j], List.getElem_mem hlt, by simpa using h⟩
    have HA2 : Hid (¬ 0 ≤ r[j] → (r.take (j + 1)).any (fun x => decide (0 ≤ x)) = false) := Lib.hid fun h => by
      rw [hta, List.any_append, HA.out]; simp at h ⊢; exact h
    generalize r[j] = x at *
    have hltI : (j : Int) < (r.length : Int) := by omega
    have hjI : ¬ (j : Int) < 0 := by omega
    clear hh hc hta e2
    go_wp2_with fail
    refine (on1 x wr).mono ?_
    rintro _ w1 ⟨rfl, rfl⟩
    by_cases hx : 0 ≤ x
    · have HR := Lib.hid (HY.out hx)
      rw [decide_eq_true hx]
      clear HY HA2 HA
      go_wp2_with fail
      go_ret
      exact ⟨j, rfl, by rw [HR.out]; simp, HS.out⟩
    · have HR := Lib.hid (HA2.out (by omega))
      rw [decide_eq_false hx]
      clear HY HA2 HA
      go_wp2_with fail
      go_roundw
      case rel => exact ⟨j + 1, by go_num, by omega, HR, HS⟩
      case measure => simp [intOf]; omega
  · obtain rfl : j = r.length := by omega
    have HR : Hid (onRow r = false) := Lib.hid (by have := HA.out; rwa [List.take_length] at this)
    have hltI : ¬ (r.length : Int) < (r.length : Int) := by omega
    clear HA
    go_wp2_with fail
    go_ret
    exact ⟨-1, rfl, by rw [HR.out]; simp, HS.out⟩
theorem on_any {D : Nat → Prop} {w : World} {r : List Int} {p : Option Addr} {c : Nat} (hD : ∀ b, D b → b < w.heap.size) (h : IV D w r (.slice p r.length c)) (hl : r.length ≤ 9223372036854775806) :
    Calls Try.prog 77 #[.slice p r.length c, .func (.func 78) #[] #[]] w fun e w' => e = .returned (.bool (onRow r)) ∧ Below w.heap.size w w' := by
  have HC := Lib.hid (on_index hD h hl)
  clear h hD
  generalize onRow r = o at *
  generalize r.length = n at *
  go_enter Try.func77, Try.ntmps77
  go_wp2_with fail
  refine HC.out.mono ?_
  rintro _ w1 ⟨k, rfl, hk, hb⟩
  have HB := Lib.hid hb
  have HK := Lib.hid hk
  clear hk hb
  by_cases hk0 : 0 ≤ k
  · have hk' : ¬ k < 0 := by omega
    go_wp2_with fail
    go_ret
    exact ⟨by rw [← HK.out]; simp [hk0], HB.out⟩
  · have hk' : k < 0 := by omega
    go_wp2_with fail
    go_ret
    exact ⟨by rw [← HK.out, decide_eq_false (by omega)]; rfl, HB.out⟩
end Go.Proofs.Ytemkppjdfjoipaa.I1.X
end
