/- Texts of package regs, one behind the other. -/
import Derived.Test.YtnhfeakndofokaaProg
import Derived.Test.YtnhfeakndofokaaN40
import Derived.Test.YtnhfeakndofokaaY23
import Derived.WalkKit
import Derived.WalkLawsBesides
import Derived.WalkSpells
import Derived.Outline
import Derived.Lib.Walk
import Derived.Lib.Hide
import Derived.Lib.Slices
import Derived.Lib.Strings
import Derived.RegionTactic
import Derived.LoopTactic
import Derived.Below
import Derived.IntWalk
import Derived.Deep.QuietTactic
import Derived.BigQuiet
import Derived.Deep.MidRow
import Derived.Maps.AppendAt
import Derived.Laws.Rows
import Derived.Laws.Tables
import Derived.Deep.WholeRow
import Derived.Deep.Cut
import Derived.Deep.CutRange
import Derived.Lib.SliceRun
import Derived.Laws.MakeOwn
import Derived.Deep.RegionLaw
import Derived.Deep.RegionLawGrows
import Derived.Deep.RegionHeld3
import Derived.RegionCalls
import Derived.Deep.RegionWith
import Derived.Deep.Light
section
/- Package nfa. -/
namespace Go.Proofs.Ytnhfeakndofokaa
set_option linter.unusedSimpArgs false
set_option linter.unusedVariables false
set_option maxRecDepth 100000
open Go.RowKit
/- The document's Has. -/
theorem half_step (K j : Nat) : ((K / 2 ^ j : Nat) : Int) / 2 = ((K / 2 ^ (j + 1) : Nat) : Int) := by
  rw [Nat.pow_succ, ← Nat.div_div_eq_div_mul]; omega
set_option maxHeartbeats 4000000 in
theorem refhas_any {u : Nat → Int} (hu : okW u) (b : UInt8) (w : World) : Calls Try.prog 61 #[uV u, .int .u8 b.toNat] w fun e w' => e = .returned (.bool (hasU u b)) ∧ Below w.heap.size w w' := by
  obtain ⟨n, hn⟩ : ∃ n, b.toNat = n := ⟨_, rfl⟩
  have hb : n < 256 := by have := b.toNat_lt; omega
  have hhas : hasU u b = ((u (n / 64)).toNat / 2 ^ (n % 64) % 2 == 1) := by
    unfold hasU
    rw [hn, Nat.testBit_eq_decide_div_mod_eq]
    rw [Bool.eq_iff_iff]; simp
  rw [hhas, hn]
  clear hhas hn b
  have hv : [Value.int IntKind.u64 (u 0), Value.int IntKind.u64 (u 1), Value.int IntKind.u64 (u 2), Value.int IntKind.u64 (u 3)][n / 64]? = some (.int .u64 (u (n / 64))) := by
    rcases (by omega : n / 64 = 0 ∨ n / 64 = 1 ∨ n / 64 = 2 ∨ n / 64 = 3) with h | h | h | h <;> rw [h] <;> rfl
  have hub := hu (n / 64)
  obtain ⟨K, hK⟩ : ∃ K : Nat, u (n / 64) = (K : Nat) := ⟨(u (n / 64)).toNat, by omega⟩
  rw [hK] at hv hub ⊢
  rw [Int.toNat_natCast]
  have S0 := Lib.hid ((Below.refl w.heap.size w).alloc (Nat.le_refl _) (.cells #[.int .u64 (u 0), .int .u64 (u 1), .int .u64 (u 2), .int .u64 (u 3)] 47))
  clear hK
  unfold uV
  go_enter Try.func61, Try.ntmps61
  go_wp2_with fail
  go_loopw [5, 6] (fun v i wr => ∃ j : Nat, i = .int .i64 (j : Nat) ∧ v = .int .u64 ((K / 2 ^ j : Nat) : Int) ∧ j ≤ n % 64 ∧ Hid (Below w.heap.size w wr)) (fun _ i _ => n % 64 - (intOf i).toNat)
  case atStart => exact ⟨0, rfl, by simp, by omega, S0⟩
  case round =>
  clear S0 hv
  obtain ⟨j, rfl, rfl, hj, HB⟩ := hrel
  have hs := half_step K j
  have hle : K / 2 ^ j ≤ K := Nat.div_le_self _ _
  have hle2 : K / 2 ^ (j + 1) ≤ K := Nat.div_le_self _ _
  by_cases hlt : j < n % 64
  · have hI : (j : Int) < (n : Int) % 64 := by omega
    obtain ⟨b, hb⟩ : ∃ b, K / 2 ^ (j + 1) = b := ⟨_, rfl⟩
    rw [hb] at hs hle2
    have HBB := Lib.hid hb
    clear hb
    generalize K / 2 ^ j = a at *
    go_wp2_with fail
    go_roundw
    case rel => exact ⟨j + 1, by go_num, by rw [HBB.out], by omega, HB⟩
    case measure => simp [intOf]; omega
  · obtain rfl : j = n % 64 := by omega
    have hI : ¬ ((n % 64 : Nat) : Int) < (n : Int) % 64 := by omega
    clear hs hle2
    obtain ⟨a, ha⟩ : ∃ a, K / 2 ^ (n % 64) = a := ⟨_, rfl⟩
    rw [ha] at hle ⊢
    have HAA := Lib.hid ha
    clear ha
    go_wp2_with fail
    go_ret
    exact ⟨vbool6 (by rw [HAA.out, Bool.eq_iff_iff]; simp; omega), HB.out⟩
end Go.Proofs.Ytnhfeakndofokaa
end
section
/- Package nfa. -/
namespace Go.Proofs.Ytnhfeakndofokaa
set_option linter.unusedSimpArgs false
set_option linter.unusedVariables false
set_option maxRecDepth 100000
open Go.RowKit
/- Rows of truths; where free ways lead: plain. -/
def BV (D : Nat → Prop) (w : World) (n : Nat) (f : Nat → Bool) (sl : Value) : Prop := ∃ b o c, sl = .slice (some ⟨b, o, none⟩) n c ∧ D b ∧ ∀ i, i < n → w.cell? ⟨b, o + i, none⟩ = some (.bool (f i))
theorem BV.mono {D E : Nat → Prop} {w w' : World} {n : Nat} {f : Nat → Bool} {sl : Value} (hn : 0 < n) (hE : ∀ b, D b → E b) (hw : ∀ b, D b → b < w.heap.size → w'.heap[b]? = w.heap[b]?) (h : BV D w n f sl) : BV E w' n f sl := by
  obtain ⟨b, o, c, rfl, hD, hc⟩ := h
  have hb := blk_lt (hc 0 hn)
  exact ⟨b, o, c, rfl, hE b hD, fun i hi => (cell_same (hw b hD hb) _).trans (hc i hi)⟩
def nofs (n : Nat) (f : Nat → Bool) : Nat := ((List.range n).filter fun i => !f i).length
theorem nofs_congr {n : Nat} {f g : Nat → Bool} (h : ∀ i, i < n → f i = g i) : nofs n f = nofs n g := by
  unfold nofs
  congr 1
  refine List.filter_congr fun i hi => ?_
  rw [h i (List.mem_range.1 hi)]
def upd (f : Nat → Bool) (i : Nat) : Nat → Bool := fun j => f j || j == i
theorem nofs_upd {n : Nat} {f : Nat → Bool} {i : Nat} (hi : i < n) (hf : f i = false) : nofs n (upd f i) < nofs n f := by
  have e : (List.range n).filter (fun j => !upd f i j) = ((List.range n).filter fun j => !f j).filter fun j => !(j == i) := by
    rw [List.filter_filter]
    refine List.filter_congr fun j _ => ?_
    unfold upd
    cases f j <;> cases (j == i) <;> rfl
  unfold nofs
  rw [e]
  refine List.length_filter_lt_length_iff_exists.2 ⟨i, ?_, by simp⟩
  rw [List.mem_filter]
  exact ⟨List.mem_range.2 hi, by rw [hf]; rfl⟩
/-- Reached from those of f0. -/
def Rin (ss : List Nst) (f0 f : Nat → Bool) : Prop := (∀ s, s < ss.length → f0 s = true → f s = true) ∧ ∀ s, s < ss.length → f s = true → ∃ a, a < ss.length ∧ f0 a = true ∧ Rt ss a s
def Clo (ss : List Nst) (f : Nat → Bool) (j : Nat) : Prop := ∀ s, s < j → f s = true → ∀ x ∈ frOf ss s, f x.toNat = true
theorem Rin.start (ss : List Nst) (f0 : Nat → Bool) : Rin ss f0 f0 := ⟨fun _ _ h => h, fun s hs h => ⟨s, hs, h, .refl s⟩⟩
theorem Rin.upd {ss : List Nst} {f0 f : Nat → Bool} {j : Nat} {x : Int} (h : Rin ss f0 f) (hj : j < ss.length) (hf : f j = true) (hx : x ∈ frOf ss j) : Rin ss f0 (upd f x.toNat) := by
  refine ⟨fun s hs h0 => by unfold Go.Proofs.Ytnhfeakndofokaa.upd; rw [h.1 s hs h0]; rfl, fun s hs hu => ?_⟩
  unfold Go.Proofs.Ytnhfeakndofokaa.upd at hu
  simp only [Bool.or_eq_true, beq_iff_eq] at hu
  rcases hu with hu | rfl
  · exact h.2 s hs hu
  · obtain ⟨a, ha, h0, hr⟩ := h.2 j hj hf
    exact ⟨a, ha, h0, .step hr x hx rfl⟩
theorem Rin.done {ss : List Nst} {f0 f : Nat → Bool} (hfi : Fine ss) (h : Rin ss f0 f) (hc : Clo ss f ss.length) : ∀ s, s < ss.length → (f s = true ↔ ∃ a, a < ss.length ∧ f0 a = true ∧ Rt ss a s) := by
  intro s hs
  refine ⟨h.2 s hs, ?_⟩
  rintro ⟨a, ha, h0, hr⟩
  have : ∀ b, Rt ss a b → f b = true ∧ b < ss.length := fun b hb => by
    induction hb with
    | refl => exact ⟨h.1 a ha h0, ha⟩
    | step _ x hx hce ih =>
      rw [hce]
      exact ⟨hc _ ih.2 ih.1 x hx, hfi.fr _ x hx⟩
  exact (this s hr).1
/-- What a row of truths in memory says. -/
def fW (w : World) (g : Nat) (i : Nat) : Bool := match w.cell? ⟨g, i, none⟩ with
  | some (.bool b) => b
  | _ => true
def flg : Value → Nat
  | .bool true => 1
  | _ => 0
/-- The document's row, and the box of the automaton. -/
def FT (w : World) (box : Obj) (g : Nat) (n : Nat) (f : Nat → Bool) (y : World) : Prop := Below w.heap.size w y ∧ y.heap[w.heap.size]? = some box ∧ w.heap.size < g ∧ ∃ cs : Array Value, y.heap[g]? = some (.cells cs 4 (0, 0)) ∧ n ≤ cs.size ∧ ∀ i, i < n → cs[i]? = some (.bool (f i))
theorem FT.cell {w : World} {box : Obj} {g n : Nat} {f : Nat → Bool} {y : World} (h : FT w box g n f y) {i : Nat} (hi : i < n) : y.cell? ⟨g, i, none⟩ = some (.bool (f i)) := by
  obtain ⟨_, _, _, cs, h1, _, h2⟩ := h
  rw [cell_of_row y g i _ 4 (0, 0) h1, h2 i hi]
theorem FT.msr {w : World} {box : Obj} {g n : Nat} {f : Nat → Bool} {y : World} (h : FT w box g n f y) : nofs n (fW y g) = nofs n f :=
  nofs_congr fun i hi => by unfold fW; rw [h.cell hi]
theorem FT.free {w : World} {box : Obj} {g n : Nat} {f : Nat → Bool} {y : World} (h : FT w box g n f y) (i : Nat) : y.frozen? ⟨g, i, none⟩ = false := by
  obtain ⟨_, _, _, cs, h1, _, h2⟩ := h
  exact frozen_of_row y g i _ 4 h1
theorem FT.set {w : World} {box : Obj} {g n : Nat} {f : Nat → Bool} {y : World} (h : FT w box g n f y) {i : Nat} (hi : i < n) : FT w box g n (upd f i) (y.setCell ⟨g, i, none⟩ (.bool true)) := by
  obtain ⟨h1, h2, h3, cs, h4, h5, h6⟩ := h
  refine ⟨h1.setCell (p := ⟨g, i, none⟩) (by simp; omega) _, (heap_setCell_other _ _ _ _ (by simp; omega)).trans h2, h3, cs.setIfInBounds i (.bool true), heap_setCell_same y g i cs 4 _ h4, by simpa using h5, fun j hj => ?_⟩
  rw [Array.getElem?_setIfInBounds]
  by_cases e : i = j
  · subst e
    rw [if_pos rfl, if_pos (by omega)]
    unfold upd; simp
  · rw [if_neg e, h6 j hj]
    unfold upd
    rw [show (j == i) = false by simpa using fun h => e h.symm]
    simp
theorem FT.up {w : World} {box : Obj} {g n : Nat} {f : Nat → Bool} {y z : World} (h : FT w box g n f y) (hb : Below y.heap.size y z) : FT w box g n f z := by
  obtain ⟨h1, h2, h3, cs, h4, h5, h6⟩ := h
  exact ⟨h1.trans (hb.mono h1.size), (hb.block _ (Array.getElem?_eq_some_iff.1 h2).1).trans h2, h3, cs, (hb.block _ (Array.getElem?_eq_some_iff.1 h4).1).trans h4, h5, h6⟩
theorem FT.bv {w : World} {box : Obj} {g n cap : Nat} {f : Nat → Bool} {y : World} (h : FT w box g n f y) : BV (fun b => w.heap.size ≤ b ∧ b < y.heap.size) y n f (.slice (some ⟨g, 0, none⟩) n cap) := by
  refine ⟨g, 0, cap, rfl, ⟨Nat.le_of_lt h.2.2.1, ?_⟩, fun i hi => by rw [Nat.zero_add]; exact h.cell hi⟩
  obtain ⟨_, _, _, cs, h1, _, h2⟩ := h
  exact (Array.getElem?_eq_some_iff.1 h1).1
def zb (n : Nat) (f : Nat → Bool) : List Value := (List.range n).map fun i => .bool (f i)
theorem zb_len (n : Nat) (f : Nat → Bool) : (zb n f).length = n := by simp [zb]
theorem zb_get {n : Nat} {f : Nat → Bool} {i : Nat} (h : i < n) : (zb n f)[i]? = some (.bool (f i)) := by simp [zb, h]
theorem zb_one (n : Nat) (f : Nat → Bool) : ∀ u ∈ zb n f, u.oneCell' = true := by
  intro u hu
  obtain ⟨i, _, rfl⟩ := List.mem_map.1 hu
  rfl
theorem ft_row {w y : World} {box : Obj} {n : Nat} {f : Nat → Bool} {v : Value} (hn : 0 < n) (hb : Below w.heap.size w y) (hx : y.heap[w.heap.size]? = some box) (h : y.ownsRow (w.heap.size + 1) 4 1 v n (zb n f)) : ∃ g cap, v = .slice (some ⟨g, 0, none⟩) n cap ∧ n ≤ cap ∧ FT w box g n f y := by
  rcases h.2 with ⟨_, h0⟩ | ⟨g, cap, cur, hv, h1, h2, h3, h4, h5, h6⟩
  · omega
  · refine ⟨g, cap, hv, h3, hb, hx, by omega, cur, h2, by omega, fun i hi => ?_⟩
    have e := congrArg (fun x : List Value => x[i]?) h6
    simp only [Nat.mul_one, List.getElem?_take, if_pos hi, Array.getElem?_toList] at e
    rw [e, zb_get hi]
end Go.Proofs.Ytnhfeakndofokaa
end
section
/- Package nfa. -/
namespace Go.Proofs.Ytnhfeakndofokaa
set_option linter.unusedSimpArgs false
set_option linter.unusedVariables false
set_option maxRecDepth 100000
open Go.RowKit
/- The document's Free. -/
structure PA (ss : List Nst) (f f1 : Nat → Bool) (b : Bool) (j : Nat) : Prop where
  le : nofs ss.length f ≤ nofs ss.length f1
  lt : b = true → nofs ss.length f < nofs ss.length f1
  cl : b = false → Clo ss f j
def CB (ss : List Nst) (f : Nat → Bool) (b : Bool) : Prop := b = false → Clo ss f ss.length
structure PB (ss : List Nst) (f f1 : Nat → Bool) (b : Bool) (j : Nat) (l : List Int) (k : Nat) : Prop where
  pa : PA ss f f1 b j
  fj : f j = true
  ck : b = false → ∀ i (h : i < l.length), i < k → f l[i].toNat = true
theorem PB.next {ss : List Nst} {f f1 : Nat → Bool} {b : Bool} {j k : Nat} {l : List Int} (h : PB ss f f1 b j l k) (hk : k < l.length) (hf : f l[k].toNat = true) : PB ss f f1 b j l (k + 1) :=
  ⟨h.pa, h.fj, fun e i hi hlt => by
    by_cases ek : i = k
    · subst ek; exact hf
    · exact h.ck e i hi (by omega)⟩
theorem PB.put {ss : List Nst} {f f1 : Nat → Bool} {b : Bool} {j k : Nat} {l : List Int} {x : Nat} (h : PB ss f f1 b j l k) (hx : x < ss.length) (hf : f x = false) : PB ss (upd f x) f1 true j l (k + 1) := by
  have h1 := nofs_upd hx hf
  have h2 := h.pa.le
  exact ⟨⟨by omega, fun _ => by omega, nofun⟩, by unfold upd; rw [h.fj]; rfl, nofun⟩
theorem PB.fin {ss : List Nst} {f f1 : Nat → Bool} {b : Bool} {j : Nat} {l : List Int} (h : PB ss f f1 b j l l.length) (hl : frOf ss j = l) : PA ss f f1 b (j + 1) :=
  ⟨h.pa.le, h.pa.lt, fun e s hs hfs x hx => by
    by_cases ej : s = j
    · subst ej
      rw [hl] at hx
      obtain ⟨i, hi, rfl⟩ := List.getElem_of_mem hx
      exact h.ck e i hi hi
    · exact h.pa.cl e s (by omega) hfs x hx⟩
set_option maxHeartbeats 16000000 in
theorem rfree_any {D E : Nat → Prop} {w : World} {st : Int} {ss : List Nst} {q : Option Addr} {c : Nat} {f0 : Nat → Bool} {vin : Value} (hn0 : 0 < ss.length) (hln : ss.length ≤ 4096) (hD : ∀ b, D b → b < w.heap.size) (hE : ∀ b, E b → b < w.heap.size) (hSV : SV D w ss (.slice q ss.length c)) (hfi : Fine ss) (hin : InB ss) (hfl : ∀ s ∈ ss, s.fr.length ≤ 1000000) (hV : BV E w ss.length f0 vin) :
    Calls Try.prog 60 #[nV st q ss.length c, vin] w fun e w' => (∃ v f, e = .returned v ∧ (∀ s, s < ss.length → (f s = true ↔ ∃ a, a < ss.length ∧ f0 a = true ∧ Rt ss a s)) ∧ BV (fun b => w.heap.size ≤ b ∧ b < w'.heap.size) w' ss.length f v) ∧ Below w.heap.size w w' := by
  obtain ⟨i0, hi, hz0, hz1, hz2⟩ := info_parts info4b
  obtain ⟨bi, oi, ci, rfl, hEi, hci⟩ := hV
  obtain ⟨q', c', he, hSV2⟩ := id hSV
  cases he
  obtain ⟨bb, o, rfl, hDb, hx⟩ := hSV2 (by intro e; subst e; simp at hn0)
  have hbw := hD bb hDb
  have HX := Lib.hid hx
  have HD := Lib.hid hD
  have HFI := Lib.hid hfi
  have HIN := Lib.hid hin
  have HFL := Lib.hid hfl
  have hW1 := ((Below.refl w.heap.size w).alloc (Nat.le_refl _) (.cells #[.int .i64 st, .slice (some ⟨bb, o, none⟩) ss.length c] 24))
  have hW2 := hW1.alloc (hW1.size) (.cells #[] 4)
  have hs1 : (w.alloc (.cells #[.int .i64 st, .slice (some ⟨bb, o, none⟩) ss.length c] 24)).heap.size = w.heap.size + 1 := by simp
  have HS2 : Hid (((w.alloc (.cells #[.int .i64 st, .slice (some ⟨bb, o, none⟩) ss.length c] 24)).alloc (.cells #[] 4)).heap.size = w.heap.size + 2) := Lib.hid (by simp)
  have HOWN : Hid (((w.alloc (.cells #[.int .i64 st, .slice (some ⟨bb, o, none⟩) ss.length c] 24)).alloc (.cells #[] 4)).ownsRow (w.heap.size + 1) 4 1 (.slice (some ⟨w.heap.size + 1, 0, none⟩) 0 0) 0 []) := Lib.hid ⟨by simp, .inr ⟨w.heap.size + 1, 0, #[], rfl, Nat.le_refl _, by have h := heap_alloc_new (w.alloc (.cells #[.int .i64 st, .slice (some ⟨bb, o, none⟩) ss.length c] 24)) (.cells #[] 4); rw [hs1] at h; exact h, Nat.le_refl _, by simp [maxLen], by simp, by simp⟩⟩
  have HBX : Hid (((w.alloc (.cells #[.int .i64 st, .slice (some ⟨bb, o, none⟩) ss.length c] 24)).alloc (.cells #[] 4)).heap[w.heap.size]? = some (.cells #[.int .i64 st, .slice (some ⟨bb, o, none⟩) ss.length c] 24)) := Lib.hid ((heap_alloc_old _ _ (by simp)).trans (heap_alloc_last w _))
  have HNEW : Hid (∀ j u, (zb ss.length f0)[j]? = some u → ((w.alloc (.cells #[.int .i64 st, .slice (some ⟨bb, o, none⟩) ss.length c] 24)).alloc (.cells #[] 4)).cell? ⟨bi, oi + j, none⟩ = some u) := Lib.hid fun j u hu => by
    have hj : j < ss.length := by have := (List.getElem?_eq_some_iff.1 hu).1; rwa [zb_len] at this
    rw [zb_get hj] at hu
    rw [cell_same (hW2.block bi (hE bi hEi)), hci j hj]
    exact hu
  have HW2 := Lib.hid hW2
  have HZL : Hid ((zb ss.length f0).length = ss.length * 1) := Lib.hid (by rw [zb_len]; omega)
  clear hSV hfi hin hfl hSV2 hx hD hE hW1 hW2 hci hEi
  unfold nV
  go_enter Try.func60, Try.ntmps60
  rw [hs1] at *
  go_wp2_with (at_builtin; refine wpList_append_own_at _ rfl (.tmp 10) (.tmp 11) 71 rfl (w.heap.size + 1) 4 i0 (.bool false) 1 1 Try.underlying71 hi hz0 hz1 hz2 rfl (by decide) (.slice (some ⟨w.heap.size + 1, 0, none⟩) 0 0) 0 [] rfl ?c0 ⟨bi, oi, none⟩ ss.length ci (zb ss.length f0) rfl HZL.out ?c1 (zb_one _ _) ?c3 ?c4 ?c5 ?_)
  case c0 => exact HOWN.out
  case c1 => exact HNEW.out
  case c3 => unfold maxLen; omega
  case c4 => omega
  intro v1 w1 hown1 hg1 _ _
  have hb1 : Below w.heap.size w w1 := below_grown HW2.out hg1 (fun g hg => by have := (World.ownsRow.lt HOWN.out g hg).1; omega) (by have := HS2.out; omega)
  have hbx1 : w1.heap[w.heap.size]? = some (.cells #[.int .i64 st, .slice (some ⟨bb, o, none⟩) ss.length c] 24) := (hg1.block w.heap.size (by have := HS2.out; omega) (by simp [Value.ownBlock])).trans HBX.out
  obtain ⟨g, cap, rfl, hcap, hft⟩ := ft_row hn0 hb1 hbx1 hown1
  have HT := Lib.hid hft
  have HR := Lib.hid (Rin.start ss f0)
  have HC : Hid (CB ss f0 true) := Lib.hid nofun
  clear hown1 hg1 hb1 hbx1 hft HBX HOWN HNEW HS2 HW2 HZL hcap
  go_wp2_with fail
  go_loopw [6] (fun m wr => ∃ (f : Nat → Bool) (b : Bool), m = .bool b ∧ Hid (FT w (.cells #[.int .i64 st, .slice (some ⟨bb, o, none⟩) ss.length c] 24) g ss.length f wr) ∧ Hid (Rin ss f0 f) ∧ Hid (CB ss f b)) (fun m wr => 2 * nofs ss.length (fW wr g) + flg m)
  case atStart => exact ⟨f0, true, rfl, HT, HR, HC⟩
  case round =>
  clear HT HR HC
  obtain ⟨f1, b, rfl, HT, HR, HC⟩ := hrel
  obtain ⟨wo, rfl⟩ : ∃ wo : World, wo = wr := ⟨_, rfl⟩
  cases b with
  | false =>
    have HFT := HT
    go_wp2_with fail
    go_ret
    exact ⟨⟨_, _, rfl, HR.out.done HFI.out (HC.out rfl), HFT.out.bv⟩, HFT.out.1⟩
  | true =>
    clear HC
    have HM1 := Lib.hid HT.out.msr
    have H0 : Hid (PA ss f1 f1 false 0) := Lib.hid ⟨Nat.le_refl _, nofun, fun _ s hs => by omega⟩
    go_wp2_with fail
    go_loopw [6, 7] (fun m i wr => ∃ (f : Nat → Bool) (b : Bool) (j : Nat), m = .bool b ∧ i = .int .i64 (j : Nat) ∧ j ≤ ss.length ∧ Hid (FT w (.cells #[.int .i64 st, .slice (some ⟨bb, o, none⟩) ss.length c] 24) g ss.length f wr) ∧ Hid (Rin ss f0 f) ∧ Hid (PA ss f f1 b j)) (fun _ i _ => ss.length - (intOf i).toNat)
    case atStart => exact ⟨f1, false, 0, rfl, rfl, by omega, HT, HR, H0⟩
    case round =>
    clear HT HR H0
    obtain ⟨f, b, j, rfl, rfl, hj, HT, HR, HN⟩ := hrel
    obtain ⟨wv, rfl⟩ : ∃ wv : World, wv = wr := ⟨_, rfl⟩
    by_cases hlt : j < ss.length
    · have hltI : (j : Int) < (ss.length : Int) := by omega
      have hjI : ¬ (j : Int) < 0 := by omega
      have cj : wv.cell? ⟨g, j, none⟩ = some (.bool (f j)) := HT.out.cell hlt
      obtain ⟨fj, hfj⟩ : ∃ fj, f j = fj := ⟨_, rfl⟩
      rw [hfj] at cj
      have HFJ := Lib.hid hfj
      clear hfj
      cases fj with
      | false =>
        have HN2 : Hid (PA ss f f1 b (j + 1)) := Lib.hid ⟨HN.out.le, HN.out.lt, fun h s hs hfs => by
          by_cases e : s = j
          · subst e; rw [HFJ.out] at hfs; cases hfs
          · exact HN.out.cl h s (by omega) hfs⟩
        clear HN HFJ
        go_wp2_with fail
        go_roundw
        case rel => exact ⟨f, b, j + 1, rfl, by go_num, by omega, HT, HR, HN2⟩
        case measure => simp [intOf]; omega
      | true =>
        obtain ⟨qf, ff, hiv, hcell⟩ := HX.out j hlt
        have hbx := HT.out.2.1
        have kb : wv.cell? ⟨w.heap.size, 1, none⟩ = some (.slice (some ⟨bb, o, none⟩) ss.length c) := cell_of_row wv _ 1 _ 24 (0, 0) hbx
        have hd5 : wv.cell? ⟨bb, o + j * 7 + 5, none⟩ = some (.slice qf (ss[j]).fr.length ff) := (cell_same (HT.out.1.block bb hbw) _).trans (hcell 5 (.slice qf (ss[j]).fr.length ff) rfl)
        have hfl := HFL.out ss[j] (List.getElem_mem hlt)
        have hlo : frOf ss j = (ss[j]).fr := frOf_get hlt
        obtain ⟨l, hl⟩ : ∃ l, (ss[j]).fr = l := ⟨_, rfl⟩
        rw [hl] at hd5 hfl hlo hiv
        have HLO := Lib.hid hlo
        have HIV : Hid (IV D w l (.slice qf l.length ff)) := Lib.hid hiv
        have HP : Hid (PB ss f f1 b j l 0) := Lib.hid ⟨HN.out, HFJ.out, fun _ i _ h => by omega⟩
        clear hcell hl hlo hiv hbx HN HFJ
        go_wp2_with fail
        clear kb hd5 cj
        go_loopw [6, 9] (fun m i wr => ∃ (f : Nat → Bool) (b : Bool) (k : Nat), m = .bool b ∧ i = .int .i64 (k : Nat) ∧ k ≤ l.length ∧ Hid (FT w (.cells #[.int .i64 st, .slice (some ⟨bb, o, none⟩) ss.length c] 24) g ss.length f wr) ∧ Hid (Rin ss f0 f) ∧ Hid (PB ss f f1 b j l k)) (fun _ i _ => l.length - (intOf i).toNat)
        case atStart => exact ⟨f, b, 0, rfl, rfl, by omega, HT, HR, HP⟩
        case round =>
        clear HT HR HP
        obtain ⟨f, b, k, rfl, rfl, hk, HT, HR, HP⟩ := hrel
        obtain ⟨wu, rfl⟩ : ∃ wu : World, wu = wr := ⟨_, rfl⟩
        by_cases hkl : k < l.length
        · obtain ⟨p', c', he, hh⟩ := HIV.out
          injection he with e1 e2 e3
          subst e1 e3
          obtain ⟨ba, oa, rfl, hba, hca⟩ := hh (by intro e; rw [e] at hkl; simp at hkl)
          have cx : wu.cell? ⟨ba, oa + k, none⟩ = some (.int .i64 l[k]) := (cell_same (HT.out.1.block ba (HD.out ba hba)) _).trans (hca k hkl)
          have hxb := HIN.out j l[k] (by rw [HLO.out]; exact List.getElem_mem hkl)
          have hxm : l[k] ∈ frOf ss j := by rw [HLO.out]; exact List.getElem_mem hkl
          obtain ⟨x, hx⟩ : ∃ x : Nat, l[k] = (x : Nat) := ⟨l[k].toNat, by omega⟩
          have HLK := Lib.hid hx
          rw [hx] at cx hxb hxm
          have hxn : x < ss.length := by omega
          have hxI : ¬ (x : Int) < 0 := by omega
          have hxI2 : (x : Int) < (ss.length : Int) := by omega
          have hkI : (k : Int) < (l.length : Int) := by omega
          have hkI2 : ¬ (k : Int) < 0 := by omega
          have cg : wu.cell? ⟨g, x, none⟩ = some (.bool (f x)) := HT.out.cell hxn
          have cf : wu.frozen? ⟨g, x, none⟩ = false := HT.out.free x
          have HXM := Lib.hid hxm
          obtain ⟨fx, hfx⟩ : ∃ fx, f x = fx := ⟨_, rfl⟩
          rw [hfx] at cg
          have HFX := Lib.hid hfx
          clear hh hca hxb hxm hx hfx e2
          cases fx with
          | true =>
            have HP2 : Hid (PB ss f f1 b j l (k + 1)) := Lib.hid (HP.out.next hkl (by rw [HLK.out, Int.toNat_natCast]; exact HFX.out))
            clear HP HFX cf
            go_wp2_with fail
            go_roundw
            case rel => exact ⟨f, b, k + 1, rfl, by go_num, by omega, HT, HR, HP2⟩
            case measure => simp [intOf]; omega
          | false =>
            have HP2 : Hid (PB ss (upd f x) f1 true j l (k + 1)) := Lib.hid (HP.out.put hxn HFX.out)
            have HR2 : Hid (Rin ss f0 (upd f x)) := Lib.hid (by have := HR.out.upd (x := (x : Int)) hlt HP.out.fj HXM.out; rwa [Int.toNat_natCast] at this)
            have HT2 := Lib.hid (HT.out.set hxn)
            clear HP HFX HT HR HXM
            go_wp2_with fail
            go_roundw
            case rel => exact ⟨_, true, k + 1, rfl, by go_num, by omega, HT2, HR2, HP2⟩
            case measure => simp [intOf]; omega
        · obtain rfl : k = l.length := by omega
          have hkI : ¬ (l.length : Int) < (l.length : Int) := by omega
          have HPA := Lib.hid (HP.out.fin HLO.out)
          clear HP
          go_wp2_with fail
          go_roundw
          case rel => exact ⟨f, b, j + 1, rfl, by go_num, by omega, HT, HR, HPA⟩
          case measure => simp [intOf]; omega
    · obtain rfl : j = ss.length := by omega
      have hltI : ¬ (ss.length : Int) < (ss.length : Int) := by omega
      have HC : Hid (CB ss f b) := Lib.hid HN.out.cl
      have HMS := Lib.hid HT.out.msr
      have HMM : Hid (2 * nofs ss.length f + flg (.bool b) < 2 * nofs ss.length f1 + 1) := Lib.hid (by
        have h := HN.out
        cases b with
        | false => have := h.le; simp [flg]; omega
        | true => have := h.lt rfl; simp [flg]; omega)
      clear HN
      go_wp2_with fail
      go_roundw
      case rel => exact ⟨f, b, rfl, HT, HR, HC⟩
      case measure => rw [HMS.out, HM1.out]; exact HMM.out
end Go.Proofs.Ytnhfeakndofokaa
end
section
/- Package nfa. -/
namespace Go.Proofs.Ytnhfeakndofokaa
set_option linter.unusedSimpArgs false
set_option linter.unusedVariables false
set_option maxRecDepth 100000
open Go.RowKit
/- The document's Begin. -/
theorem mkb_bv {w : World} {D : Nat → Prop} {b n c : Nat} {l : List Nat} (h : w.heap[b]? = some (.cells (mkb n l) 4 (0, 0))) (hD : D b) : BV D w n (fun i => decide (i ∈ l)) (.slice (some ⟨b, 0, none⟩) n c) :=
  ⟨b, 0, c, rfl, hD, fun i hi => by rw [Nat.zero_add, cell_of_row w b i _ 4 (0, 0) h, mkb_get hi]⟩
/-- Truths that say where a text leads. -/
def Leads (ss : List Nst) (m : Nat) (x : List UInt8) (f : Nat → Bool) : Prop := ∀ s, s < ss.length → (f s = true ↔ Acc hasU ss x m s)
set_option maxHeartbeats 8000000 in
theorem rbegin_any {D : Nat → Prop} {w : World} {m : Nat} {ss : List Nst} {q : Option Addr} {c : Nat} (hm : m < ss.length) (hln : ss.length ≤ 4096) (hD : ∀ b, D b → b < w.heap.size) (hSV : SV D w ss (.slice q ss.length c)) (hfi : Fine ss) (hin : InB ss) (hfl : ∀ s ∈ ss, s.fr.length ≤ 1000000) :
    Calls Try.prog 45 #[nV (m : Nat) q ss.length c] w fun e w' => (∃ v f, e = .returned v ∧ Leads ss m [] f ∧ BV (fun b => w.heap.size ≤ b ∧ b < w'.heap.size) w' ss.length f v) ∧ Below w.heap.size w w' := by
  have hs0 := ((Sb.start w).alloc (.cells #[.int .i64 (m : Nat), .slice q ss.length c] 24)).alloc (.cells (mkb ss.length []) 4)
  have hs1 : (w.alloc (.cells #[.int .i64 (m : Nat), .slice q ss.length c] 24)).heap.size = w.heap.size + 1 := by simp
  rw [hs1] at hs0
  have S0 := Lib.hid hs0
  have HF := Lib.hid fun (z : World) (hb : Below w.heap.size w z) (b0 : Nat) (hb0 : z.heap[b0]? = some (.cells (mkb ss.length [m]) 4 (0, 0))) => rfree_any (D := D) (E := fun b => b < z.heap.size) (w := z) (st := (m : Nat)) (f0 := fun i => decide (i ∈ [m])) (vin := .slice (some ⟨b0, 0, none⟩) ss.length ss.length) (by omega) hln (fun b h => Nat.lt_of_lt_of_le (hD b h) hb.size) (fun b h => h) (hSV.mono (fun b h => h) (fun b h _ => hb.block b (hD b h))) hfi hin hfl (mkb_bv hb0 (Array.getElem?_eq_some_iff.1 hb0).1)
  unfold nV at HF
  have hmk := fun w => make_b ss.length hln w
  have hmI : ¬ (m : Int) < 0 := by omega
  have hmI2 : (m : Int) < (ss.length : Int) := by omega
  clear hs0 hSV hD hin hfl
  unfold nV
  go_enter Try.func45, Try.ntmps45
  go_upto_region 2 with (simp only [hmk])
  refine at_world (fun y => Sb w y [(w.heap.size + 1, .cells (mkb ss.length []) 4), (w.heap.size, .cells #[.int .i64 (m : Nat), .slice q ss.length c] 24)]) S0.out fun y hy => ?_
  have c0 : y.cell? ⟨w.heap.size, 0, none⟩ = some (.int .i64 (m : Nat)) := hy.tl.cell 0
  have cm : y.cell? ⟨w.heap.size + 1, m, none⟩ = some (.bool false) := by rw [hy.cell m, mkb_get hm]; simp
  have cf : y.frozen? ⟨w.heap.size + 1, m, none⟩ = false := hy.free m
  have hy2 := hy.set (i := m) (.bool true) (by simp)
  rw [mkb_set] at hy2
  have HY := Lib.hid hy2
  clear hy hy2 S0 hs1
  go_upto_region 3 with fail
  refine at_world (fun y => Sb w y [(w.heap.size + 1, .cells (mkb ss.length [m]) 4), (w.heap.size, .cells #[.int .i64 (m : Nat), .slice q ss.length c] 24)]) HY.out fun y1 hy => ?_
  have HC := Lib.hid (HF.out y1 hy.1 _ hy.heap)
  have HB := Lib.hid hy.1
  have c0 : y1.cell? ⟨w.heap.size, 0, none⟩ = some (.int .i64 (m : Nat)) := hy.tl.cell 0
  have c1 : y1.cell? ⟨w.heap.size, 1, none⟩ = some (.slice q ss.length c) := hy.tl.cell 1
  clear hy HF HY cm cf
  go_wp2_with fail
  refine HC.out.mono ?_
  rintro _ w3 ⟨⟨v, f, rfl, hf, hbv⟩, hb3⟩
  have HBV := Lib.hid hbv
  have HFF : Hid (Leads ss m [] f) := Lib.hid fun s hs => by
    rw [hf s hs]
    constructor
    · rintro ⟨a, ha, hm2, hr⟩
      have e : a = m := by simpa using hm2
      subst e
      exact hr
    · intro hr
      exact ⟨m, hm, by simp, hr⟩
  have HB3 := Lib.hid (HB.out.trans (hb3.mono HB.out.size))
  have HSZ := Lib.hid HB.out.size
  clear hbv hf hb3 HC HB c0 c1
  go_wp2_with fail
  go_ret
  exact ⟨⟨_, _, rfl, HFF.out, HBV.out.mono (by omega) (fun b h => ⟨Nat.le_trans HSZ.out h.1, h.2⟩) (fun b _ _ => rfl)⟩, HB3.out⟩
end Go.Proofs.Ytnhfeakndofokaa
end
