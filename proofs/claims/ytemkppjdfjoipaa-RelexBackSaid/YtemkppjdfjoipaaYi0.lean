/- Package relex. -/
import Derived.Test.YtemkppjdfjoipaaProg
import Derived.Test.YtemkppjdfjoipaaW38
import Derived.Test.YtemkppjdfjoipaaW36
import Derived.Test.YtemkppjdfjoipaaW39
import Derived.Deep.SlicePairs
import Derived.Deep.Slices
import Derived.Laws.IdiomArrays
import Derived.OpenShut
import Derived.WideBlind
import Derived.Great.BuildSlice
import Derived.WalkKit
import Derived.Maps.OwnSet
import Derived.Maps.OwnOps
import Derived.Maps.Own
import Derived.DeepKeys5
import Derived.BigFrame
import Derived.WalkMore
import Derived.ScopeJumps
import Derived.StillTailTactics
import Derived.Stop.BytesEq
import Derived.WalkLawsBesides
import Derived.WalkSpells
import Derived.Outline
import Derived.Lib.Walk
import Derived.Lib.Hide
import Derived.Lib.Slices
import Derived.Lib.Strings
import Derived.RegionTactic
import Derived.LoopTactic
import Derived.Below
import Derived.IntWalk
import Derived.Deep.QuietTactic
import Derived.BigQuiet
import Derived.Deep.MidRow
import Derived.Maps.AppendAt
import Derived.Laws.Rows
import Derived.Laws.Tables
import Derived.Deep.WholeRow
import Derived.Deep.Cut
import Derived.Deep.CutRange
import Derived.Lib.SliceRun
import Derived.Laws.MakeOwn
import Derived.Deep.RegionLaw
import Derived.Deep.RegionLawGrows
import Derived.Deep.RegionHeld3
import Derived.RegionCalls
import Derived.Deep.RegionWith
import Derived.Deep.Light
import Derived.Laws.CopyOwn
import Derived.Laws.ResultCell
namespace Go.Proofs.Ytemkppjdfjoipaa.I1.X
set_option linter.unusedSimpArgs false
set_option linter.unusedVariables false
set_option maxRecDepth 100000
open Go.RowKit
/- edits.Undo, and what an edit that is taken back is. -/
open Go.Proofs.Ytemkppjdfjoipaa.Ed (checkZ apS withinB ed EdAt check_err)
def undoV (x : ByteArray) (a c : Nat) (t : ByteArray) : Value := ed (a : Nat) ((a : Int) + (t.size : Int)) (x.extract a c)
/-- A result's memory still lies there, blank, and can be written. -/
def ResAt (b : Nat) (w : World) : Prop :=
  EdAt b 0 0 .empty w ∧ w.frozen? ⟨b, 0, none⟩ = false ∧ w.frozen? ⟨b, 1, none⟩ = false ∧ w.frozen? ⟨b, 2, none⟩ = false
theorem ResAt.below {b B : Nat} {w w' : World} (h : ResAt b w) (hb : Below B w w') (hB : b < B) : ResAt b w' :=
  ⟨h.1.below hb hB, (hb.frozen (p := ⟨b, 0, none⟩) hB).trans h.2.1, (hb.frozen (p := ⟨b, 1, none⟩) hB).trans h.2.2.1, (hb.frozen (p := ⟨b, 2, none⟩) hB).trans h.2.2.2⟩
theorem ResAt.new (w : World) : ResAt w.heap.size (w.alloc (.cells #[.int .i64 0, .int .i64 0, .string .empty] 45)) :=
  ⟨Ed.EdAt.new w 0 0 .empty, by simp, by simp, by simp⟩
theorem ResAt.new2 (w : World) (o : Obj) : ResAt (w.heap.size + 1) ((w.alloc o).alloc (.cells #[.int .i64 0, .int .i64 0, .string .empty] 45)) := by
  have h := ResAt.new (w.alloc o)
  rwa [World.size_alloc] at h
theorem fits {n : Nat} {s e : Int} {t : ByteArray} (h : checkZ n s e t = 0) : 0 ≤ s ∧ s ≤ e ∧ e ≤ n ∧ (n : Int) ≤ 65536 ∧ (t.size : Int) ≤ 65536 - (n - (e - s)) := by
  unfold checkZ at h
  split at h
  · omega
  split at h
  · omega
  split at h
  · omega
  rename_i h1 h2 h3
  have : withinB s e n = true := by simpa using h2
  simp [withinB] at this
  omega
theorem undo_err (x : ByteArray) (s e : Int) (t : ByteArray) (w : World) (ht : t.size ≤ 9223372036854775807) (hx : x.size ≤ 9223372036854775807) (h : checkZ x.size s e t ≠ 0) :
    Calls Try.prog 22 #[.string x, ed s e t] w fun r w' => r = .returned (.tuple #[ed 0 0 .empty, .int .i64 (checkZ x.size s e t)]) ∧ Below w.heap.size w w' := by
  obtain ⟨k, hk⟩ : ∃ k, checkZ x.size s e t = k := ⟨_, rfl⟩
  rw [hk] at h ⊢
  have hk' := Lib.hid hk; clear hk
  have h' : (k != 0) = true := by simpa using h
  go_enter Try.func22, Try.ntmps22
  go_wp2_with fail
  refine (check_err _ _ _ _ _ ht _ hk'.out).mono ?_
  rintro _ w1 ⟨rfl, hb1⟩
  have R1 := Lib.hid ((ResAt.new2 w (.cells #[.int .i64 s, .int .i64 e, .string t] 45)).below hb1 (by simp))
  have q0 := R1.out.1.1
  have q1 := R1.out.1.2.1
  have q2 := R1.out.1.2.2.1
  have f0 := R1.out.2.1
  have f1 := R1.out.2.2.1
  have f2 := R1.out.2.2.2
  go_wp2
  refine bodyPost_ret (v := .tuple #[ed 0 0 .empty, .int .i64 k]) (by simp [results, Try.results22, go_sem, q0, q1, q2]; rfl) rfl ⟨rfl, ?_⟩
  have L1 : Below w.heap.size w w1 := (((Below.refl _ _).alloc (Nat.le_refl _) _).alloc (by simp) _).trans (hb1.mono (by simp; omega))
  exact ((L1.setCell (by simp) _).setCell (by simp) _).setCell (by simp) _
theorem undo_ok (x : ByteArray) (a c : Nat) (t : ByteArray) (w : World) (ht : t.size ≤ 9223372036854775807) (hx : x.size ≤ 9223372036854775807) (h : checkZ x.size (a : Nat) (c : Nat) t = 0) :
    Calls Try.prog 22 #[.string x, ed (a : Nat) (c : Nat) t] w fun r w' => r = .returned (.tuple #[undoV x a c t, .int .i64 0]) ∧ Below w.heap.size w w' := by
  obtain ⟨n1, n2, n3, n4, n5⟩ := fits h
  have h' := Lib.hid h; clear h
  go_enter Try.func22, Try.ntmps22
  go_wp2_with fail
  refine (check_err _ _ _ _ _ ht _ h'.out).mono ?_
  rintro _ w1 ⟨rfl, hb1⟩
  have R1 := Lib.hid ((ResAt.new2 w (.cells #[.int .i64 a, .int .i64 c, .string t] 45)).below hb1 (by simp))
  have E1 := Lib.hid (((Ed.EdAt.new w a c t).alloc _).below hb1 (by simp; omega))
  have hc0 := E1.out.1
  have hc1 := E1.out.2.1
  have hc2 := E1.out.2.2.1
  have hz := R1.out.1.2.2.2
  go_wp2_with fail
  refine (clone49 _ _ (by simp; omega)).mono ?_
  rintro _ w2 ⟨rfl, hb2⟩
  have R2 := Lib.hid (R1.out.below hb2 hz)
  have E2 := Lib.hid (E1.out.below hb2 (by omega))
  have q0 := R2.out.1.1
  have q1 := R2.out.1.2.1
  have q2 := R2.out.1.2.2.1
  have f0 := R2.out.2.1
  have f1 := R2.out.2.2.1
  have f2 := R2.out.2.2.2
  clear hc0 hc1 hc2
  have hc0 := E2.out.1
  have hc1 := E2.out.2.1
  have hc2 := E2.out.2.2.1
  go_wp2
  refine bodyPost_ret (v := .tuple #[undoV x a c t, .int .i64 0]) (by simp [results, Try.results22, go_sem, q0, q1, q2, undoV]) rfl ⟨rfl, ?_⟩
  have L1 : Below w.heap.size w w1 := (((Below.refl _ _).alloc (Nat.le_refl _) _).alloc (by simp) _).trans (hb1.mono (by simp; omega))
  have L2 := L1.trans (hb2.mono (by omega))
  exact ((L2.setCell (by simp) _).setCell (by simp) _).setCell (by simp) _
theorem ba_ext {x y : ByteArray} (h : x.data.toList = y.data.toList) : x = y := by
  apply ByteArray.ext
  exact Array.toList_inj.mp h
theorem ba_len (x : ByteArray) : x.data.toList.length = x.size := by simp
theorem splice_list (x : ByteArray) (a c : Nat) (t : ByteArray) : (Ed.splice x a c t).data.toList = x.data.toList.take a ++ t.data.toList ++ x.data.toList.drop c := by simp [Ed.splice]
theorem splice_size (x : ByteArray) (a c : Nat) (t : ByteArray) (h : a ≤ x.size) : (Ed.splice x a c t).size = a + t.size + (x.size - c) := by
  rw [← ba_len, splice_list]
  simp
  omega
theorem take_at {α : Type} (l m : List α) (a : Nat) (h : l.length = a) : (l ++ m).take a = l := by rw [← h]; simp
theorem drop_at {α : Type} (l m : List α) (a : Nat) (h : l.length = a) : (l ++ m).drop a = m := by rw [← h]; simp
theorem extract_list (x : ByteArray) (a b : Nat) : (x.extract a b).data.toList = (x.data.toList.drop a).take (b - a) := by
  rw [ByteArray.data_extract, Array.toList_extract]
theorem splice_back (x : ByteArray) (a c : Nat) (t : ByteArray) (h1 : a ≤ c) (h2 : c ≤ x.size) : Ed.splice (Ed.splice x a c t) a (a + t.size) (x.extract a c) = x := by
  apply ba_ext
  have hx : x.data.toList.length = x.size := by simp
  have ht : t.data.toList.length = t.size := by simp
  rw [splice_list, splice_list, extract_list]
  rw [drop_at (x.data.toList.take a ++ t.data.toList) _ _ (by rw [List.length_append, List.length_take, ht]; omega)]
  rw [List.append_assoc (x.data.toList.take a), take_at _ _ _ (by rw [List.length_take]; omega)]
  have e1 : x.data.toList.drop c = (x.data.toList.drop a).drop (c - a) := by rw [List.drop_drop]; congr 1; omega
  rw [e1, List.append_assoc, List.take_append_drop, List.take_append_drop]
/-- An edit that fits, taken back, fits, and leads «to» what was. -/
theorem undo_fits {x : ByteArray} {a c : Nat} {t : ByteArray} (h : checkZ x.size (a : Nat) (c : Nat) t = 0) : ∃ y, apS x (a : Nat) (c : Nat) t = y ∧ y.size ≤ 65536 ∧ Ed1 (bl x) (bl y) a c t.size ∧ checkZ y.size (a : Nat) ((a + t.size : Nat) : Int) (x.extract a c) = 0 ∧ apS y (a : Nat) ((a + t.size : Nat) : Int) (x.extract a c) = x ∧ Ed1 (bl y) (bl x) a (a + t.size) (x.extract a c).size := by
  obtain ⟨n1, n2, n3, n4, n5⟩ := fits h
  have hs : x.size ≤ 65536 := by omega
  obtain ⟨a', c', e1, e2, e3, e4, e5⟩ := ed_of hs h
  obtain rfl : a' = a := by omega
  obtain rfl : c' = c := by omega
  refine ⟨_, e3, e5, e4, ?_⟩
  have hb := splice_back x a' c' t (by omega) (by omega)
  have hz := splice_size x a' c' t (by omega)
  have hxs : (x.extract a' c').size = c' - a' := by rw [← ba_len, extract_list]; simp; omega
  have hc : checkZ (Ed.splice x a' c' t).size (a' : Nat) ((a' + t.size : Nat) : Int) (x.extract a' c') = 0 := by
    have hw : withinB (a' : Nat) ((a' + t.size : Nat) : Int) (Ed.splice x a' c' t).size = true := by
      unfold withinB
      simp only [Bool.and_eq_true, decide_eq_true_eq]
      omega
    unfold checkZ
    rw [if_neg (by omega), hw, if_neg (by simp), if_neg (by rw [hxs]; omega)]
  obtain ⟨b', d', g1, g2, g3, g4, g5⟩ := ed_of e5 hc
  obtain rfl : b' = a' := by omega
  obtain rfl : d' = b' + t.size := by omega
  rw [hb] at g3 g4
  exact ⟨hc, g3, g4⟩
/-- What Undo answers of whatever edit. -/
def UnP (x : ByteArray) (s e : Int) (t : ByteArray) (K : Int) (w : World) (r : Ending) (w' : World) : Prop :=
  ∃ (u0 u1 : Int) (u2 : ByteArray), r = .returned (.tuple #[.agg #[.int .i64 u0, .int .i64 u1, .string u2], .int .i64 K]) ∧ Below w.heap.size w w' ∧ (K = 0 → ∃ a c : Nat, s = (a : Int) ∧ e = (c : Int) ∧ u0 = (a : Int) ∧ u1 = ((a + t.size : Nat) : Int) ∧ u2 = x.extract a c)
theorem undo_any (x : ByteArray) (s e : Int) (t : ByteArray) (ht : t.size ≤ 9223372036854775807) (hx : x.size ≤ 9223372036854775807) {K : Int} (hK : checkZ x.size s e t = K) (w : World) :
    Calls Try.prog 22 #[.string x, .agg #[.int .i64 s, .int .i64 e, .string t]] w (UnP x s e t K w) := by
  subst hK
  by_cases h : checkZ x.size s e t = 0
  · obtain ⟨n1, n2, n3, n4, n5⟩ := fits h
    obtain ⟨a, rfl⟩ : ∃ a : Nat, s = (a : Int) := ⟨s.toNat, by omega⟩
    obtain ⟨c, rfl⟩ : ∃ c : Nat, e = (c : Int) := ⟨e.toNat, by omega⟩
    refine (undo_ok x a c t w ht hx h).mono ?_
    rintro r w' ⟨rfl, hb⟩
    rw [h]
    exact ⟨_, _, _, rfl, hb, fun _ => ⟨a, c, rfl, rfl, rfl, by simp, rfl⟩⟩
  · refine (undo_err x s e t w ht hx h).mono ?_
    rintro r w' ⟨rfl, hb⟩
    exact ⟨_, _, _, rfl, hb, fun h0 => absurd h0 h⟩
end Go.Proofs.Ytemkppjdfjoipaa.I1.X
