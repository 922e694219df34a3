/- Texts of package regs, one behind the other. -/
import Derived.Test.YthglciccejholaaDoorProg
import Derived.Test.YthglciccejholaaDoorZ4
import Derived.Test.YthglciccejholaaDoorZ1
import Derived.WalkKit
import Derived.BigFrame
import Derived.WalkMore
import Derived.ScopeJumps
import Derived.StillTailTactics
import Derived.Stop.BytesEq
import Derived.WalkLawsBesides
import Derived.WalkSpells
import Derived.Outline
import Derived.Lib.Walk
import Derived.Lib.Hide
import Derived.Lib.Slices
import Derived.Lib.Strings
import Derived.RegionTactic
import Derived.LoopTactic
import Derived.Below
import Derived.IntWalk
import Derived.Deep.QuietTactic
import Derived.BigQuiet
import Derived.Deep.MidRow
import Derived.Maps.AppendAt
import Derived.Laws.Rows
import Derived.Laws.Tables
import Derived.Deep.WholeRow
import Derived.Deep.Cut
import Derived.Deep.CutRange
import Derived.Lib.SliceRun
import Derived.Laws.MakeOwn
import Derived.Deep.RegionLaw
import Derived.Deep.RegionLawGrows
import Derived.Deep.RegionHeld3
import Derived.RegionCalls
import Derived.Deep.RegionWith
import Derived.Deep.Light
import Derived.Laws.CopyOwn
import Derived.Laws.ResultCell
import Derived.Test.YthglciccejholaaDoorZ2
section
/- Package dfa. -/
namespace Go.Proofs.YthglciccejholaaDoor
set_option linter.unusedSimpArgs false
set_option linter.unusedVariables false
set_option maxRecDepth 100000
open Go.RowKit
/- Sets of states, 64 words: has. -/
/-- A set's 64 words at a place. -/
def SW (w : World) (b o : Nat) (f : Nat → Bool) : Prop := ∀ i, i < 64 → w.cell? ⟨b, o + i, none⟩ = some (.int .u64 (W f i))
theorem SW.same {w w' : World} {b o : Nat} {f : Nat → Bool} (h : SW w b o f) (hb : w'.heap[b]? = w.heap[b]?) : SW w' b o f := fun i hi => (cell_same hb _).trans (h i hi)
theorem SW.lt {w : World} {b o : Nat} {f : Nat → Bool} (h : SW w b o f) : b < w.heap.size := blk_lt (h 0 (by omega))
theorem SW.up {w w' : World} {b o : Nat} {f : Nat → Bool} (h : SW w b o f) (hb : Below w.heap.size w w') : SW w' b o f := h.same (hb.block b h.lt)
set_option maxHeartbeats 1000000 in
theorem hasS_any {w : World} {b o : Nat} {f : Nat → Bool} (h : SW w b o f) {s : Nat} (hs : s < 4096) :
    Calls Tryd.prog 116 #[.pointer (some ⟨b, o, none⟩), .int .i64 (s : Nat)] w fun e w' => e = .returned (.bool (f s)) ∧ w' = w := by
  have hc := h (s / 64) (by omega)
  have hr := W_has f (s / 64) (s % 64) (Nat.mod_lt _ (by omega))
  rw [Nat.div_add_mod] at hr
  generalize f s = v at hr ⊢
  have H := Lib.hid h
  clear h
  have h1 : ¬ (s : Int) / 64 < 0 := by omega
  have h2 : (s : Int) / 64 < 64 := by omega
  have h3 : ((s : Int) / 64).toNat = s / 64 := by omega
  go_enter Tryd.func116, Tryd.ntmps116
  go_wp2
  go_ret
  exact ⟨rfl, rfl⟩
set_option maxHeartbeats 1000000 in
theorem addS_any {w : World} {b o : Nat} {f : Nat → Bool} (h : SW w b o f) (hz : ∀ i, i < 64 → w.frozen? ⟨b, o + i, none⟩ = false) {s : Nat} (hs : s < 4096) :
    Calls Tryd.prog 115 #[.pointer (some ⟨b, o, none⟩), .int .i64 (s : Nat)] w fun e w' => e = .returned (.tuple #[]) ∧ w' = w.drew.setCell ⟨b, o + s / 64, none⟩ (.int .u64 (W (fun x => f x || x == s) (s / 64))) := by
  have hc := h (s / 64) (by omega)
  have hf := hz (s / 64) (by omega)
  have hr := W_with f (s / 64) (s % 64) (Nat.mod_lt _ (by omega))
  rw [Nat.div_add_mod] at hr
  generalize hv : ((W (fun x => f x || x == s) (s / 64) : Nat) : Int) = v at hr ⊢
  have H := Lib.hid h
  clear h hz
  have h1 : ¬ (s : Int) / 64 < 0 := by omega
  have h1' : 0 ≤ (s : Int) / 64 := by omega
  have h2 : (s : Int) / 64 < 64 := by omega
  have h3 : ((s : Int) / 64).toNat = s / 64 := by omega
  have h4 : ((s : Int) % 64).toNat = s % 64 := by omega
  have hc' : w.drew.cell? ⟨b, o + s / 64, none⟩ = some (.int .u64 (W f (s / 64))) := hc
  have hf' : w.drew.frozen? ⟨b, o + s / 64, none⟩ = false := hf
  clear hv
  have i1 : IntKind.i64.wrap ((s : Int) / 64) = (s : Int) / 64 := IntWalk.i64_in _ (by omega)
  have i2 : IntKind.i64.wrap ((s : Int) % 64) = (s : Int) % 64 := IntWalk.i64_in _ (by omega)
  have h5 : (s : Int).tmod 64 = (s : Int) % 64 := Int.tmod_eq_emod_of_nonneg (by omega)
  have h6 : ¬ (s : Int) % 64 < 0 := by omega
  have h7 : 0 ≤ (s : Int) % 64 := by omega
  have h8 : (s : Int) % 64 < 64 := by omega
  go_enter Tryd.func115, Tryd.ntmps115
  go_upto_region 0 with fail
  go_still_tail 12, (by kernel_rfl)
  change wpList _ _ _ _ _ w.drew
  go_wp2
  go_end0
  exact ⟨rfl, rfl⟩
end Go.Proofs.YthglciccejholaaDoor
end
section
/- Package dfa. -/
namespace Go.Proofs.YthglciccejholaaDoor
set_option linter.unusedSimpArgs false
set_option linter.unusedVariables false
set_option maxRecDepth 100000
open Go.RowKit
/- The set that is being found: reach. -/
def mb (l : List Nat) (x : Nat) : Bool := l.contains x
theorem mb_app (l : List Nat) (s : Nat) : (fun x => mb l x || x == s) = mb (l ++ [s]) := by
  funext x; simp only [mb, List.contains_eq_mem, List.mem_append, List.mem_singleton, Bool.decide_or]; rfl
theorem mb_in {l : List Nat} {s : Nat} (h : s ∈ l) : mb l s = true := by simp [mb, h]
theorem mb_out {l : List Nat} {s : Nat} (h : ¬ s ∈ l) : mb l s = false := by simp [mb, h]
/-- A row of cells in which a front lies from o on. -/
structure FRow (R0 R : Array Value) (o : Nat) (la : List Nat) (sl : Value) : Prop where
  sz : R.size = R0.size
  out : ∀ j, j < o ∨ o + 65 ≤ j → R[j]? = R0[j]?
  ws : ∀ i, i < 64 → R[o + i]? = some (.int .u64 (W (mb la) i))
  ls : R[o + 64]? = some sl
theorem FRow.put {R0 R : Array Value} {o : Nat} {la : List Nat} {sl : Value} (h : FRow R0 R o la sl) {s : Nat} (hs : s < 4096) : FRow R0 (R.setIfInBounds (o + s / 64) (.int .u64 (W (fun x => mb la x || x == s) (s / 64)))) o (la ++ [s]) sl := by
  refine ⟨by simpa using h.sz, fun j hj => ?_, fun i hi => ?_, ?_⟩
  · rw [Array.getElem?_setIfInBounds_ne (by omega)]; exact h.out j hj
  · have hsz := (Array.getElem?_eq_some_iff.1 (h.ws i hi)).1
    rw [Array.getElem?_setIfInBounds]
    split
    · rename_i e
      have e : i = s / 64 := by omega
      subst e
      rw [if_pos (by omega), mb_app]
    · rename_i e
      rw [h.ws i hi, ← mb_app, W_skip (mb la) i s (fun k hk => by omega)]
  · rw [Array.getElem?_setIfInBounds_ne (by omega)]; exact h.ls
theorem FRow.sl {R0 R : Array Value} {o : Nat} {la : List Nat} {sl : Value} (h : FRow R0 R o la sl) (v : Value) : FRow R0 (R.setIfInBounds (o + 64) v) o la v := by
  have hsz := (Array.getElem?_eq_some_iff.1 h.ls).1
  refine ⟨by simpa using h.sz, fun j hj => ?_, fun i hi => ?_, ?_⟩
  · rw [Array.getElem?_setIfInBounds_ne (by omega)]; exact h.out j hj
  · rw [Array.getElem?_setIfInBounds_ne (by omega)]; exact h.ws i hi
  · rw [Array.getElem?_setIfInBounds]; simp [hsz]
/-- A front in a block F from o on; whatever else is there is as R0 says. -/
structure FS (D : Nat → Prop) (B : Nat) (w0 y : World) (F o T : Nat) (R0 : Array Value) (la l : List Nat) (sl : Value) : Prop where
  bel : Below B w0 y
  f : ∃ R, y.heap[F]? = some (.cells R T) ∧ FRow R0 R o la sl
  row : y.ownsRow B 3 1 sl l.length (ints l)
  hF : B ≤ F
  sF : sl.ownBlock ≠ some F
  sz : B ≤ y.heap.size
  kp : ∀ b, D b → y.heap[b]? = w0.heap[b]?
  dF : ¬ D F
  dS : ∀ g, sl.ownBlock = some g → ¬ D g
  dl : ∀ b, D b → b < y.heap.size
variable {D : Nat → Prop} {B : Nat} {w0 y : World} {F o T : Nat} {R0 : Array Value} {la l : List Nat} {sl : Value}
theorem FS.sw (h : FS D B w0 y F o T R0 la l sl) : SW y F o (mb la) := by
  obtain ⟨R, hR, hr⟩ := h.f
  intro i hi
  rw [cell_of_row y F (o + i) R T (0, 0) hR]; exact hr.ws i hi
theorem FS.fz (h : FS D B w0 y F o T R0 la l sl) (j : Nat) : y.frozen? ⟨F, j, none⟩ = false := by
  obtain ⟨R, hR, hr⟩ := h.f
  exact frozen_of_row y F j R T hR
theorem FS.cl (h : FS D B w0 y F o T R0 la l sl) : y.cell? ⟨F, o + 64, none⟩ = some sl := by
  obtain ⟨R, hR, hr⟩ := h.f
  rw [cell_of_row y F (o + 64) R T (0, 0) hR]; exact hr.ls
theorem FS.lt (h : FS D B w0 y F o T R0 la l sl) : F < y.heap.size := by
  obtain ⟨R, hR, hr⟩ := h.f
  exact (Array.getElem?_eq_some_iff.1 hR).1
theorem FS.drew (h : FS D B w0 y F o T R0 la l sl) : FS D B w0 y.drew F o T R0 la l sl := ⟨h.bel.drew, h.f, h.row, h.hF, h.sF, h.sz, h.kp, h.dF, h.dS, h.dl⟩
theorem FS.put (h : FS D B w0 y F o T R0 la l sl) {s : Nat} (hs : s < 4096) : FS D B w0 (y.drew.setCell ⟨F, o + s / 64, none⟩ (.int .u64 (W (fun x => mb la x || x == s) (s / 64)))) F o T R0 (la ++ [s]) l sl := by
  have hd := h.drew
  obtain ⟨R, hR, hr⟩ := hd.f
  refine ⟨hd.bel.setCell (p := ⟨F, o + s / 64, none⟩) h.hF _, ⟨_, heap_setCell_same y.drew F (o + s / 64) R T _ hR, hr.put hs⟩, ?_, h.hF, h.sF, by simpa using hd.sz, fun b hb => (heap_setCell_other y.drew ⟨F, o + s / 64, none⟩ b _ (fun e => h.dF (by cases (show b = F from e); exact hb))).trans (h.kp b hb), h.dF, h.dS, fun b hb => by simpa using hd.dl b hb⟩
  refine World.ownsRow.kept hd.row (row := some F) ⟨rfl, rfl, rfl, by simp, fun k hk hne => heap_setCell_other y.drew _ k _ (fun e => hne (by rw [e]))⟩ ?_
  by_cases hp : sl.ownBlock = none
  · exact .inl hp
  · exact .inr h.sF
set_option maxHeartbeats 4000000 in
theorem reachS_in (h : FS D B w0 y F o T R0 l l sl) {s : Nat} (hs : s < 4096) (hin : s ∈ l) :
    Calls Tryd.prog 95 #[.pointer (some ⟨F, o, none⟩), .int .i64 (s : Nat)] y fun e y' => e = .returned (.tuple #[]) ∧ FS D B w0 y' F o T R0 l l sl := by
  have H := Lib.hid h
  have hc := Lib.hid (hasS_any h.sw hs)
  have hv := mb_in hin
  clear h hin
  go_enter Tryd.func95, Tryd.ntmps95
  go_wp2_with fail
  refine hc.out.mono ?_
  rintro _ _ ⟨rfl, rfl⟩
  rw [hv]
  go_wp2_with fail
  go_end0
  exact ⟨rfl, H.out⟩
set_option maxHeartbeats 4000000 in
theorem reachS_new (h : FS D B w0 y F o T R0 l l sl) {s : Nat} (hs : s < 4096) (hl : l.length ≤ 4096) (hin : ¬ s ∈ l) :
    Calls Tryd.prog 95 #[.pointer (some ⟨F, o, none⟩), .int .i64 (s : Nat)] y fun e y' => e = .returned (.tuple #[]) ∧ ∃ sl', FS D B w0 y' F o T R0 (l ++ [s]) (l ++ [s]) sl' := by
  obtain ⟨i0, hi, hz0, hz1, hz2⟩ := info_parts info3
  obtain ⟨p, c, rfl⟩ := row_form h.row
  have hc := Lib.hid (hasS_any h.sw hs)
  have hadd := Lib.hid (addS_any h.sw (fun i _ => h.fz _) hs)
  have H1 := Lib.hid (h.put hs)
  have hv := mb_out hin
  clear h hin
  go_enter Tryd.func95, Tryd.ntmps95
  go_wp2_with fail
  refine hc.out.mono ?_
  rintro _ _ ⟨rfl, rfl⟩
  rw [hv]
  go_wp2_with fail
  refine hadd.out.mono ?_
  rintro _ z' ⟨rfl, rfl⟩
  go_upto_region 2 with fail
  refine at_world (fun z => FS D B w0 z F o T R0 (l ++ [s]) l (.slice p l.length c)) H1.out fun z hz => ?_
  clear hc hadd H1
  have H2 := Lib.hid hz
  have c1 : z.cell? ⟨F, o + 64, none⟩ = some (.slice p l.length c) := hz.cl
  have X4 := Lib.hid (World.ownsRow.alloc hz.row (.cells #[.int .i64 (s : Nat)] 3))
  have hzs := hz.sz
  have HYA := Lib.hid (show (z.alloc (.cells #[.int .i64 (s : Nat)] 3)).heap.size = z.heap.size + 1 by simp)
  clear hz
  go_wp2_with (at_builtin; refine wpList_append_own_at _ rfl (.tmp 19) (.tmp 21) 39 rfl B 3 i0 (.int .i64 0) 1 8 Tryd.underlying39 hi hz0 hz1 hz2 rfl (by decide) (.slice p l.length c) l.length (ints l) rfl ?c0 ⟨z.heap.size, 0, none⟩ 1 1 [.int .i64 (s : Nat)] rfl rfl ?c1 ?c2 ?c3 ?c4 ?c5 ?_)
  case c0 => exact X4.out
  case c1 =>
    intro i v hv
    cases i with
    | zero => rw [← hv]; exact cell_of_row _ _ _ _ 3 (0, 0) (heap_alloc_last z _)
    | succ i => cases hv
  case c2 => simp [Value.oneCell']
  case c3 => unfold maxLen; omega
  case c4 => omega
  case c5 => have := HYA.out; omega
  intro v' w7 hown7 hgrow7 _ hat7
  obtain ⟨p7, c7, rfl⟩ := row_form hown7
  obtain ⟨v', hv'⟩ : ∃ v', v' = Value.slice p7 (l.length + 1) c7 := ⟨_, rfl⟩
  rw [← hv'] at hown7 hat7
  have hya := HYA.out
  have hFne : (Value.slice p l.length c).ownBlock ≠ some F := H2.out.sF
  have hFlt : F < z.heap.size := H2.out.lt
  obtain ⟨R, hR, hr⟩ := H2.out.f
  have hF7 : w7.heap[F]? = some (.cells R T) := (hgrow7.block F (by omega) (fun e => hFne e.symm)).trans ((heap_alloc_old z _ hFlt).trans hR)
  have hF8 : w7.cell? ⟨F, o + 64, none⟩ = some (.slice p l.length c) := (cell_of_row w7 F (o + 64) R T (0, 0) hF7).trans hr.ls
  have hFf : w7.frozen? ⟨F, o + 64, none⟩ = false := frozen_of_row w7 F (o + 64) R T hF7
  have hvF : v'.ownBlock ≠ some F := by rcases hat7 with e | e <;> rw [e]; exact hFne; intro h; cases h; omega
  have hkp7 : ∀ b, D b → w7.heap[b]? = w0.heap[b]? := fun b hb => by
    have hlt := H2.out.dl b hb
    exact (hgrow7.block b (by omega) (fun e => H2.out.dS b e.symm hb)).trans ((heap_alloc_old z _ hlt).trans (H2.out.kp b hb))
  have hdS7 : ∀ g, v'.ownBlock = some g → ¬ D g := fun g hg hd => by
    have hlt := H2.out.dl g hd
    rcases hat7 with e | e <;> rw [e] at hg
    · exact H2.out.dS g hg hd
    · cases hg; omega
  have hbel7 : Below B w0 w7 := below_grown ((H2.out.bel.alloc H2.out.sz _)) hgrow7 (fun g hg => (World.ownsRow.lt X4.out g hg).1) (by omega)
  have hints : ints (l ++ [s]) = ints l ++ [.int .i64 (s : Nat)] := by simp [ints]
  have hrow7 : w7.ownsRow B 3 1 v' (l ++ [s]).length (ints (l ++ [s])) := by rw [hints, List.length_append]; exact hown7
  have hsz7 := hgrow7.size
  have hR3 : (w7.setCell ⟨F, o + 64, none⟩ v').ownsRow B 3 1 v' (l ++ [s]).length (ints (l ++ [s])) := by
    refine World.ownsRow.kept hrow7 (row := some F) ⟨rfl, rfl, rfl, by simp, fun k hk hne => heap_setCell_other w7 _ k _ (fun e => hne (by rw [e]))⟩ ?_
    by_cases hp : v'.ownBlock = none
    · exact .inl hp
    · exact .inr hvF
  have H3 : Hid (FS D B w0 (w7.setCell ⟨F, o + 64, none⟩ v') F o T R0 (l ++ [s]) (l ++ [s]) v') := Lib.hid ⟨hbel7.setCell (p := ⟨F, o + 64, none⟩) H2.out.hF _, ⟨_, heap_setCell_same w7 F (o + 64) R T v' hF7, hr.sl v'⟩, hR3, H2.out.hF, hvF, by simp; omega, fun b hb => (heap_setCell_other w7 ⟨F, o + 64, none⟩ b _ (fun e => H2.out.dF (by cases (show b = F from e); exact hb))).trans (hkp7 b hb), H2.out.dF, hdS7, fun b hb => by have := H2.out.dl b hb; simp; omega⟩
  clear hR3
  rw [hv'] at H3
  subst hv'
  clear hkp7 hdS7 hown7 hgrow7 hat7 hF7 hbel7 hrow7 hints hvF X4 H2 c1 hr hR
  go_wp2_with fail
  go_end0
  exact ⟨rfl, _, H3.out⟩
theorem reachS_any (h : FS D B w0 y F o T R0 l l sl) {s : Nat} (hs : s < 4096) (hl : l.length ≤ 4096) :
    Calls Tryd.prog 95 #[.pointer (some ⟨F, o, none⟩), .int .i64 (s : Nat)] y fun e y' => e = .returned (.tuple #[]) ∧ ∃ sl', FS D B w0 y' F o T R0 (rch l s) (rch l s) sl' := by
  unfold rch
  by_cases hin : s ∈ l
  · rw [if_pos hin]
    exact (reachS_in h hs hin).mono fun e y' k => ⟨k.1, sl, k.2⟩
  · rw [if_neg hin]
    exact reachS_new h hs hl hin
end Go.Proofs.YthglciccejholaaDoor
end
section
/- Package dfa. -/
namespace Go.Proofs.YthglciccejholaaDoor
set_option linter.unusedSimpArgs false
set_option linter.unusedVariables false
set_option maxRecDepth 100000
open Go.RowKit
/- meet. -/
def sA (f : Nat → Bool) : Array Value := Array.ofFn fun i : Fin 64 => .int .u64 (W f i.val)
theorem sA_size (f : Nat → Bool) : (sA f).size = 64 := by simp [sA]
theorem sA_get (f : Nat → Bool) {i : Nat} (h : i < 64) : (sA f)[i]? = some (.int .u64 (W f i)) := by simp [sA, Array.getElem?_ofFn, h]
theorem sA_one (f : Nat → Bool) : (sA f).all (·.oneCell') = true := by
  rw [Array.all_eq_true_iff_forall_mem]
  intro v hv
  obtain ⟨i, hi, rfl⟩ := Array.getElem_of_mem hv
  simp [sA, Value.oneCell']
def sV (f : Nat → Bool) : Value := .agg (sA f)
theorem W_no (i : Nat) : W (fun _ => false) i = 0 := (W_eq _ i 0 (by omega) (fun k _ => by simp)).symm
theorem sA_no : sA (fun _ => false) = Array.replicate 64 (.int .u64 0) := by
  apply Array.ext
  · simp [sA]
  · intro i h1 h2; simp [sA, W_no]
theorem info139 : (Tryd.prog.info? 139).map (·.size) = some 64 := by kernel_rfl
/-- The first k words of f, then those of g. -/
def sM (f g : Nat → Bool) (k : Nat) : Array Value := Array.ofFn fun i : Fin 64 => .int .u64 (if i.val < k then W f i.val else W g i.val)
theorem sM_zero (f g : Nat → Bool) : sM f g 0 = sA g := by simp [sM, sA]
theorem sM_end (f g : Nat → Bool) : sM f g 64 = sA f := by
  apply Array.ext
  · simp [sM, sA]
  · intro i h1 h2
    have h2 : i < 64 := by simpa [sA] using h2
    simp [sM, sA, h2]
theorem sM_set (f g : Nat → Bool) {k : Nat} (h : k < 64) : (sM f g k).setIfInBounds k (.int .u64 (W f k)) = sM f g (k + 1) := by
  apply Array.ext
  · simp [sM]
  · intro i h1 h2
    have h2 : i < 64 := by simpa [sM] using h2
    rw [Array.getElem_setIfInBounds (by simpa [sM] using h2)]
    simp only [sM, Array.getElem_ofFn]
    by_cases e : k = i
    · subst e; simp
    · rw [if_neg e]
      by_cases e2 : i < k
      · rw [if_pos e2, if_pos (by omega)]
      · rw [if_neg e2, if_neg (by omega)]
theorem W_and' (f g : Nat → Bool) (i : Nat) : bits .and .u64 (W f i : Int) (W g i : Int) = ((W (fun x => f x && g x) i : Nat) : Int) := by
  rw [bits_and_u64_nat _ _ (W_lt f i) (W_lt g i)]
  refine congrArg (fun n : Nat => (n : Int)) ?_
  refine W_eq _ _ _ (Nat.lt_of_le_of_lt Nat.and_le_left (W_lt f i)) fun k hk => ?_
  rw [Nat.testBit_and, W_test f i k hk, W_test g i k hk]
theorem wpList_load_S {ops : Array Oper} {rest : List Oper} {op : Oper} {a : Act} {w : World} {Q : Exit → Act → World → Prop} (hgd : op.guard = none) (x : Operand) (ho : op.op = .load 139 x) (b o : Nat) (f : Nat → Bool) (hx : a.eval x = .pointer (some ⟨b, o, none⟩)) (hc : SW w b o f)
    (h : wpList Tryd.prog ops Q rest (a.put op.dst (sV f)) w) : wpList Tryd.prog ops Q (op :: rest) a w :=
  wpList_load_mid hgd 139 x ho b o hx (sA f).toList _ (fun j v hj => by
    have hj' : (sA f)[j]? = some v := by simpa using hj
    have hlt : j < 64 := by have := (Array.getElem?_eq_some_iff.1 hj').1; rwa [sA_size] at this
    rw [sA_get f hlt] at hj'
    cases hj'
    exact hc j hlt) Tryd.underlying139 rfl (by rw [info139]; simp [sA_size]) (by simpa [sV] using h)
theorem SW.row {w : World} {b T : Nat} {f : Nat → Bool} (h : w.heap[b]? = some (.cells (sA f) T)) : SW w b 0 f := fun i hi => by
  rw [Nat.zero_add, cell_of_row w b i _ T (0, 0) h, sA_get f hi]
/-- meet's two blocks. -/
def Me (w y : World) (f g : Nat → Bool) (k : Nat) : Prop := Below w.heap.size w y ∧ y.heap[w.heap.size]? = some (.cells (sA fun _ => false) 139) ∧ y.heap[w.heap.size + 1]? = some (.cells (sM (fun x => f x && g x) (fun _ => false) k) 139)
set_option maxHeartbeats 8000000 in
theorem meet_any {w : World} {b o b' o' : Nat} {f g : Nat → Bool} (h : SW w b o f) (h' : SW w b' o' g) :
    Calls Tryd.prog 124 #[.pointer (some ⟨b, o, none⟩), .pointer (some ⟨b', o', none⟩)] w fun e w' => e = .returned (sV fun x => f x && g x) ∧ Below w.heap.size w w' := by
  have H := Lib.hid h
  have H' := Lib.hid h'
  clear h h'
  go_enter Tryd.func124, Tryd.ntmps124
  go_wp2_with fail
  refine at_world (fun y => Me w y f g 0) ?start fun y hy => ?_
  case start =>
    refine ⟨((Below.refl _ _).alloc (Nat.le_refl _) _).alloc (by simp) _, ?_, ?_⟩
    · rw [sA_no]; exact (heap_alloc_old _ _ (by simp)).trans (heap_alloc_last w _)
    · rw [sM_zero, sA_no]
      have hl : ∀ u v : Obj, ((w.alloc u).alloc v).heap[w.heap.size + 1]? = some v := fun u v => by have := heap_alloc_last (w.alloc u) v; simpa using this
      exact hl _ _
  have HY := Lib.hid hy
  clear hy
  go_loopw [7] (fun i wr => ∃ k : Nat, i = .int .i64 (k : Nat) ∧ k ≤ 64 ∧ Hid (Me w wr f g k)) (fun i _ => 64 - (intOf i).toNat)
  case atStart => exact ⟨0, rfl, by omega, HY⟩
  case round =>
    clear HY
    obtain ⟨k, rfl, hk, HY⟩ := hrel
    obtain ⟨wo, rfl⟩ : ∃ wo : World, wo = wr := ⟨_, rfl⟩
    by_cases hlt : k < 64
    · have hltI : (k : Int) < 64 := by omega
      have hkI : ¬ (k : Int) < 0 := by omega
      have hkI' : 0 ≤ (k : Int) := by omega
      have c1 := (H.out.same (HY.out.1.block b H.out.lt)) k hlt
      have c2 := (H'.out.same (HY.out.1.block b' H'.out.lt)) k hlt
      have c1' : wo.drew.cell? ⟨b, o + k, none⟩ = some (.int .u64 (W f k)) := c1
      have c2' : wo.drew.cell? ⟨b', o' + k, none⟩ = some (.int .u64 (W g k)) := c2
      have c3 : wo.drew.cell? ⟨w.heap.size + 1, k, none⟩ = some (.int .u64 (if k < k then W (fun x => f x && g x) k else W (fun _ => false) k)) := by
        refine (cell_of_row wo (w.heap.size + 1) k _ 139 (0, 0) HY.out.2.2).trans ?_
        simp [sM, hlt]
      have c4 : wo.drew.frozen? ⟨w.heap.size + 1, k, none⟩ = false := frozen_of_row wo (w.heap.size + 1) k _ 139 HY.out.2.2
      have ha := W_and' f g k
      have hnext : Hid (Me w ((wo.setCell ⟨w.heap.size + 1, k, none⟩ (.int .u64 ((W (fun x => f x && g x) k : Nat) : Int))).drew) f g (k + 1)) := Lib.hid ⟨(HY.out.1.setCell (p := ⟨w.heap.size + 1, k, none⟩) (by simp) _).drew, (heap_setCell_other wo ⟨w.heap.size + 1, k, none⟩ _ _ (by simp)).trans HY.out.2.1, by
        have := heap_setCell_same wo (w.heap.size + 1) k _ 139 (.int .u64 ((W (fun x => f x && g x) k : Nat) : Int)) HY.out.2.2
        rwa [sM_set _ _ hlt] at this⟩
      clear HY
      generalize ((W (fun x => f x && g x) k : Nat) : Int) = v at *
      go_upto_region 5 with fail
      go_still_tail 13, (by kernel_rfl)
      change wpList _ _ _ _ _ wo.drew
      go_wp2_with fail
      go_roundw
      case rel => exact ⟨k + 1, by go_num, by omega, hnext⟩
      case measure => simp [intOf]; omega
    · obtain rfl : k = 64 := by omega
      have hY := HY.out
      unfold Me at hY
      rw [sM_end] at hY
      obtain ⟨h1, h2, h3⟩ := hY
      have H1 := Lib.hid h1
      have H2 := Lib.hid h2
      have H3 := Lib.hid h3
      clear h1 h2 h3 HY
      go_wp2_with (first | (refine wpList_load_S rfl (.tmp 5) rfl (w.heap.size + 1) 0 _ rfl (SW.row H3.out) ?_) | (refine wpList_store_row rfl 139 (.tmp 4) (.tmp 24) rfl w.heap.size (sA fun x => f x && g x) rfl rfl 139 _ H2.out (by rw [info139, sA_size]) (by rw [sA_size, sA_size]) (sA_one _) ?_))
      refine bodyPost_ret (v := sV fun x => f x && g x) (results_cell_row rfl _ _ w.heap.size 139 _ (0, 0) _ rfl (setRow_heap _ w.heap.size _ _ 139 (0, 0) H2.out) Tryd.underlying139 rfl (by rw [info139, sA_size])) rfl ⟨rfl, ?_⟩
      exact below_setRow H1.out (Nat.le_refl _) _
end Go.Proofs.YthglciccejholaaDoor
end
section
/- Package dfa. -/
namespace Go.Proofs.YthglciccejholaaDoor
set_option linter.unusedSimpArgs false
set_option linter.unusedVariables false
set_option maxRecDepth 100000
open Go.RowKit
/- empty. -/
def noS : Nat → Bool := fun _ => false
theorem built139 : Tryd.prog.built 139 [] = some (Array.replicate 64 (.int .u64 0)) := by kernel_rfl
theorem wpList_build_S {ops : Array Oper} {rest : List Oper} {op : Oper} {a : Act} {w : World} {Q : Exit → Act → World → Prop} (hgd : op.guard = none) (ho : op.op = .build 139 #[])
    (h : wpList Tryd.prog ops Q rest (a.put op.dst (sV noS)) w) : wpList Tryd.prog ops Q (op :: rest) a w := by
  have e : ∀ f : Nat × Operand → Nat × Value, (Array.map f #[]).toList = [] := fun f => by simp
  have e2 : sV noS = .agg (Array.replicate 64 (.int .u64 0)) := by unfold sV noS; rw [sA_no]
  rw [e2] at h
  refine wpList_build hgd 139 #[] ho ?_ ?_
  · rw [e, built139]; rfl
  · rw [e, built139]; exact h
theorem own_take0 {y : World} {B : Nat} {sl : Value} {n : Nat} {xs : List Value} (h : y.ownsRow B 3 1 sl n xs) : ∃ p c, sl = .slice p n c ∧ y.ownsRow B 3 1 (.slice p 0 c) 0 [] ∧ (Value.slice p 0 c).ownBlock = sl.ownBlock := by
  rcases h.2 with ⟨rfl, h1⟩ | ⟨g, cap, cur, rfl, h1, h2, h3, h4, h5, h6⟩
  · have e : n = 0 := by have := h.1; subst h1; simp at this; omega
    subst e
    exact ⟨_, _, rfl, ⟨by simp, .inl ⟨rfl, rfl⟩⟩, rfl⟩
  · exact ⟨_, _, rfl, ⟨by simp, .inr ⟨g, cap, cur, rfl, h1, h2, by omega, h4, by omega, by simp⟩⟩, rfl⟩
theorem FRow.all {R0 R : Array Value} {o : Nat} {la : List Nat} {sl : Value} (h : FRow R0 R o la sl) (l : List Nat) : FRow R0 (putA R o (sA (mb l)).toList) o l sl := by
  have hsz := (Array.getElem?_eq_some_iff.1 h.ls).1
  have hl : (sA (mb l)).toList.length = 64 := by simp [sA_size]
  refine ⟨by rw [putA_size]; exact h.sz, fun j hj => ?_, fun i hi => ?_, ?_⟩
  · rw [putA_get _ _ _ _ (by rw [hl]; omega), if_neg (by rw [hl]; omega)]; exact h.out j hj
  · rw [putA_get _ _ _ _ (by rw [hl]; omega), if_pos (by rw [hl]; omega), show o + i - o = i by omega, Array.getElem?_toList, sA_get _ hi]
  · rw [putA_get _ _ _ _ (by rw [hl]; omega), if_neg (by rw [hl]; omega)]; exact h.ls
variable {D : Nat → Prop} {B : Nat} {w0 y : World} {F o T : Nat} {R0 : Array Value} {la l : List Nat} {sl : Value}
theorem FS.keep {y' : World} (h : FS D B w0 y F o T R0 la l sl) {la' : List Nat} (R' : Array Value) (hR' : y'.heap[F]? = some (.cells R' T)) (hr : FRow R0 R' o la' sl) (hb : Below B w0 y') (hs : y'.heap.size = y.heap.size) (ho : ∀ z, z ≠ F → y'.heap[z]? = y.heap[z]?)
    (hos : y'.os = y.os) (ht : y'.tape = y.tape) (hou : y'.output = y.output) : FS D B w0 y' F o T R0 la' l sl := by
  refine ⟨hb, ⟨R', hR', hr⟩, ?_, h.hF, h.sF, by rw [hs]; exact h.sz, fun b hd => (ho b (fun e => h.dF (e ▸ hd))).trans (h.kp b hd), h.dF, h.dS, fun b hd => by rw [hs]; exact h.dl b hd⟩
  refine World.ownsRow.kept h.row (row := some F) ⟨hos, ht, hou, by omega, fun k hk hne => ho k (fun e => hne (by rw [e]))⟩ ?_
  by_cases hp : sl.ownBlock = none
  · exact .inl hp
  · exact .inr h.sF
theorem setCells_rest (b : Nat) : ∀ (vs : List Value) (o : Nat) (w : World), (w.setCells b o vs).os = w.os ∧ (w.setCells b o vs).tape = w.tape ∧ (w.setCells b o vs).output = w.output
  | [], _, _ => ⟨rfl, rfl, rfl⟩
  | v :: r, o, w => by
    obtain ⟨h1, h2, h3⟩ := setCells_rest b r (o + 1) (w.setCell ⟨b, o, none⟩ v)
    exact ⟨h1, h2, h3⟩
theorem FS.all (h : FS D B w0 y F o T R0 la l sl) (l' : List Nat) : FS D B w0 (y.setCells F o (sA (mb l')).toList) F o T R0 l' l sl := by
  obtain ⟨R, hR, hr⟩ := h.f
  obtain ⟨h1, h2, h3⟩ := setCells_rest F (sA (mb l')).toList o y
  exact h.keep _ (setCells_heap _ o y R hR) (hr.all l') (setCells_below h.hF _ _ _ h.bel) (setCells_size _ _ _) (fun z hz => setCells_other hz _ _ _) h1 h2 h3
theorem FS.there (h : FS D B w0 y F o T R0 la l sl) : y.there F o 64 := fun j hj => ⟨by rw [h.sw j hj]; rfl, h.fz _⟩
theorem mb_nil : mb [] = noS := by funext x; simp [mb, noS]
set_option maxHeartbeats 4000000 in
theorem emptyS_any (h : FS D B w0 y F o T R0 la l sl) : Calls Tryd.prog 123 #[.pointer (some ⟨F, o, none⟩)] y fun e y' => e = .returned (.tuple #[]) ∧ ∃ sl', FS D B w0 y' F o T R0 [] [] sl' := by
  have H := Lib.hid h
  have HT := Lib.hid h.there
  have H1 := Lib.hid (h.all [])
  rw [mb_nil] at H1
  clear h
  go_enter Tryd.func123, Tryd.ntmps123
  go_upto_region 0 with fail
  refine wp_region_list ?_
  refine wpList_plain rfl fun K hK => ?_
  have hK2 := Lib.hid hK
  clear hK
  go_wp2_with fail
  refine hK2.out _ _ ?_
  clear hK2 K
  refine wpList_build_S rfl rfl ?_
  simp only [Act.put, List.setIfInBounds_toArray, List.set_cons_succ, List.set_cons_zero]
  refine wpList_plain rfl fun K hK => ?_
  have hK2 := Lib.hid hK
  clear hK
  go_wp2_with fail
  refine hK2.out _ _ ?_
  clear hK2 K
  refine wpList_plain rfl fun K hK => ?_
  have hK2 := Lib.hid hK
  clear hK
  go_wp2_with fail
  refine hK2.out _ _ ?_
  clear hK2 K
  refine wpList_store_mid rfl 139 (.tmp 5) (.tmp 3) rfl F o (sA noS) rfl rfl (by rw [sA_size]; exact HT.out) (by rw [info139, sA_size]) (sA_one _) ?_
  simp only [Act.put]
  refine wpList_nil ?_
  refine at_worldQ (fun z => FS D B w0 z F o T R0 [] l sl) H1.out fun z hz => ?_
  obtain ⟨p, c, rfl, hrow, hown⟩ := own_take0 hz.row
  have H2 := Lib.hid hz
  have HR := Lib.hid hrow
  have HO := Lib.hid hown
  have c1 : z.cell? ⟨F, o + 64, none⟩ = some (.slice p l.length c) := hz.cl
  have f1 : z.frozen? ⟨F, o + 64, none⟩ = false := hz.fz _
  clear hz hrow hown HT H1 H
  go_wp2_with fail
  go_end0
  refine ⟨rfl, .slice p 0 c, ?_⟩
  have h := H2.out
  obtain ⟨R, hR, hr⟩ := h.f
  refine ⟨h.bel.setCell (p := ⟨F, o + 64, none⟩) h.hF _, ⟨_, heap_setCell_same z F (o + 64) R T _ hR, hr.sl _⟩, ?_, h.hF, by rw [HO.out]; exact h.sF, by simpa using h.sz, fun b hb => (heap_setCell_other z ⟨F, o + 64, none⟩ b _ (fun e => h.dF (by cases (show b = F from e); exact hb))).trans (h.kp b hb), h.dF, fun g hg => h.dS g (by rw [← HO.out]; exact hg), fun b hb => by simpa using h.dl b hb⟩
  refine World.ownsRow.kept HR.out (row := some F) ⟨rfl, rfl, rfl, by simp, fun k hk hne => heap_setCell_other z _ k _ (fun e => hne (by rw [e]))⟩ ?_
  by_cases hp : (Value.slice p 0 c).ownBlock = none
  · exact .inl hp
  · exact .inr (by rw [HO.out]; exact h.sF)
end Go.Proofs.YthglciccejholaaDoor
end
