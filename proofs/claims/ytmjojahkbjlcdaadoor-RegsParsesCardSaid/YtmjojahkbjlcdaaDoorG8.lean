/- Package regs: the reader's small steps: what comes next. -/
import Derived.Test.YtmjojahkbjlcdaaDoorProg
import Derived.Test.YtmjojahkbjlcdaaDoorY3
import Derived.Test.YtmjojahkbjlcdaaDoorY4
import Derived.WalkKit
import Derived.WalkLawsBesides
import Derived.WalkSpells
import Derived.Outline
import Derived.Lib.Walk
import Derived.Lib.Hide
import Derived.RegionTactic
import Derived.LoopTactic
import Derived.Below
import Derived.IntWalk
import Derived.Deep.QuietTactic
import Derived.BigQuiet
import Derived.Deep.Light
import Derived.Test.YtmjojahkbjlcdaaDoorY8
namespace Go.Proofs.YtmjojahkbjlcdaaDoor
set_option linter.unusedSimpArgs false
set_option linter.unusedVariables false
set_option maxRecDepth 100000
open Go.RowKit

theorem wtn_len {l : List UInt8} {w : List UInt8} {x : UInt8} {q : List UInt8} (h : wtn l = .ok ((w, x), q)) : q.length < l.length := by
  obtain ⟨h1, rfl⟩ := wtn_ok h
  have := wlen h1
  simp; omega
theorem itl_len {l r : List UInt8} (h : itl l = .ok ((), r)) : r.length < l.length := by
  unfold itl at h
  split at h
  · cases h
  · rename_i w1 x r1 hw
    have h1 := wtn_len hw
    split at h
    · cases h; exact h1
    · rename_i c r2
      split at h
      · split at h
        · cases h
        · rename_i w2 y t hw2
          have h2 := wtn_len hw2
          split at h
          · cases h; simp only [List.length_cons] at h1; omega
          · cases h
      · cases h; exact h1
/-- A class from behind its opening on: where it ends. -/
def cl : Nat → List UInt8 → Except (List UInt8) (Unit × List UInt8)
  | 0, l => .error l
  | k + 1, l => if l.head? = some 93 then .ok ((), l.tail) else match itl l with
    | .error q => .error q
    | .ok (_, r) => cl k r
def hat (r : List UInt8) : List UInt8 := if r.head? = some 94 then r.tail else r
theorem ahl_one (c : UInt8) (l : List UInt8) : ahl (⟨#[c]⟩ : ByteArray).data.toList l = decide (l.head? = some c) := by
  cases l with
  | nil => rfl
  | cons d r => simp [ahl, eq_comm]
def atR (rb : Nat) (w : World) : Nat := match w.cell? ⟨rb, 1, none⟩ with | some (.int _ n) => n.toNat | _ => 0
theorem Gat.at {rb n : Nat} {s : ByteArray} {w : World} (h : Gat rb s n w) : atR rb w = n := by unfold atR; rw [h.c1]; rfl
/-- What a class reads as: of a text that is none, nothing. -/
def setO : Option (Nat → Bool) → Value
  | some f => setV f
  | none => .agg #[.int .u64 0, .int .u64 0, .int .u64 0, .int .u64 0]
def IT (rb : Nat) (s : ByteArray) : Prop := Hid (∀ q w, GA rb s q w → Calls Tryd.prog 112 #[.pointer (some ⟨rb, 0, none⟩)] w (StepP rb s w (itl q) fun _ => .tuple #[]))
/-- What the loop of a class leaves. -/
def ClsR (rb : Nat) (s : ByteArray) (n0 : Nat) (w : World) (r : Except (List UInt8) (Unit × List UInt8)) (e : Ending) (w' : World) : Prop :=
  match r with
  | .error t => e = boom ∧ GK rb s t w w'
  | .ok (_, t) => e = .returned (setO (ps (s.extract n0 (s.size - t.length)).data.toList)) ∧ GK rb s t w w'
theorem PE_eq2 (o : Option (Nat → Bool)) : ∃ x0 x1 x2 x3 z : Int, PE o = .returned (.tuple #[.agg #[.int .u64 x0, .int .u64 x1, .int .u64 x2, .int .u64 x3], .int .i64 z]) ∧ setO o = .agg #[.int .u64 x0, .int .u64 x1, .int .u64 x2, .int .u64 x3] := by
  cases o with
  | none => exact ⟨0, 0, 0, 0, 50, rfl, rfl⟩
  | some f => exact ⟨_, _, _, _, 0, rfl, rfl⟩
theorem all4 (x0 x1 x2 x3 : Int) : (#[Value.int .u64 x0, Value.int .u64 x1, Value.int .u64 x2, Value.int .u64 x3]).all (·.oneCell') = true := by
  simp only [Array.all_eq_true]
  intro i hi
  have : i < 4 := hi
  rcases (by omega : i = 0 ∨ i = 1 ∨ i = 2 ∨ i = 3) with rfl | rfl | rfl | rfl <;> rfl
theorem Gk.row {rb n b : Nat} {s : ByteArray} {w w1 : World} {cs : Array Value} (h : Gk rb s n w w1) (hb : w.heap.size ≤ b) (hne : b ≠ rb) : Gk rb s n w (w1.setRow b cs) :=
  ⟨⟨h.1.os, h.1.tape, h.1.output, by simpa using h.1.size, fun j hj hr => (setRow_other w1 b j cs (by omega)).trans (h.1.block j hj hr)⟩, (setRow_other w1 b rb cs (fun e => hne e.symm)).trans h.2⟩
set_option maxHeartbeats 4000000 in
theorem class_walk {rb n0 n1 n2 : Nat} {s : ByteArray} {w : World} (q0 : List UInt8) (hs : s.size ≤ 1000) (hn0 : n0 ≤ n2) (hn2 : n2 = s.size - q0.length) (hq0 : Suf s q0) (h0 : Gat rb s n0 w) (hP1 : PS rb ⟨#[91]⟩ s n0 true n1) (v : Bool) (hP2 : PS rb ⟨#[94]⟩ s n1 v n2) (hIT : IT rb s)
    (hPS : ∀ q, Suf s q → PS rb ⟨#[93]⟩ s (s.size - q.length) (decide (q.head? = some 93)) (s.size - (if q.head? = some 93 then q.tail else q).length)) :
    Calls Tryd.prog 106 #[.pointer (some ⟨rb, 0, none⟩)] w (ClsR rb s n0 w (cl (q0.length + 1) q0)) := by
  have HU := Lib.hid (Gk.up h0 ((Below.refl _ _).alloc (Nat.le_refl _) (.cells #[.int .u64 0, .int .u64 0, .int .u64 0, .int .u64 0] 24)))
  have HA := Lib.hid (Gk.refl HU.out.2)
  have HB2 := Lib.hid (heap_alloc_last w (.cells #[.int .u64 0, .int .u64 0, .int .u64 0, .int .u64 0] 24))
  have hne : w.heap.size ≠ rb := by have := h0.lt; omega
  have c1 := HU.out.2.c1
  have z := HU.out.2.lt
  have HPS := Lib.hid hPS
  have HN2 := Lib.hid hn2
  have HQ0 := Lib.hid hq0
  have HN0 := Lib.hid hn0
  obtain ⟨R, hR⟩ : ∃ R, cl (q0.length + 1) q0 = R := ⟨_, rfl⟩
  rw [hR]
  have HR := Lib.hid hR
  clear h0 hPS hn2 hq0 hR hn0
  go_enter Tryd.func106, Tryd.ntmps106
  go_wp2_with fail
  generalize hwA : w.alloc (.cells #[.int .u64 0, .int .u64 0, .int .u64 0, .int .u64 0] 24) = wA at *
  clear hwA
  generalize hb2 : w.heap.size = b2 at *
  refine (hP1.out _ HA.out.2).mono ?_
  rintro _ w1 ⟨rfl, hk⟩
  have H1 := Lib.hid hk
  clear hk
  go_wp2_with fail
  refine (hP2.out _ H1.out.2).mono ?_
  rintro _ w2 ⟨rfl, hk⟩
  have H2 : Hid (GK rb s q0 wA w2) := Lib.hid (by have h := H1.out.trans hk; rw [HN2.out] at h; exact .of HQ0.out h)
  clear hk H1 HA c1 z
  go_wp2_with fail
  go_loopw [16] (fun _ wr => ∃ q k, q.length < k ∧ q.length ≤ q0.length ∧ Hid (cl k q = R) ∧ Hid (GK rb s q wA wr)) (fun _ wr => s.size - atR rb wr)
  case atStart => exact ⟨q0, q0.length + 1, by omega, by omega, HR, H2⟩
  case round =>
    obtain ⟨q, k, hk, hqq, HC, HK⟩ := hrel
    obtain ⟨wo, rfl⟩ : ∃ wo : World, wo = wr := ⟨_, rfl⟩
    clear H2 HR
    obtain ⟨k, rfl⟩ : ∃ j, k = j + 1 := ⟨k - 1, by omega⟩
    have hp := HPS.out q HK.out.2.1
    by_cases hh : q.head? = some 93
    · rw [decide_eq_true hh, if_pos hh] at hp
      have hr : Except.ok ((), q.tail) = R := by rw [← HC.out, cl, if_pos hh]
      subst hr
      have hsuf : Suf s q.tail := by
        cases q with
        | nil => exact HK.out.2.1
        | cons c r => exact HK.out.2.1.tl
      have hle : n0 ≤ s.size - q.tail.length := by
        have := HN0.out; rw [HN2.out] at this
        have h3 : q.tail.length ≤ q.length := by simp
        omega
      clear HC hh hk hqq
      generalize q.tail = t at *
      go_wp2_with fail
      refine (hp.out _ HK.out.2.2).mono ?_
      rintro _ wl ⟨rfl, hk2⟩
      have HL := Lib.hid (HK.out.gk.trans hk2)
      clear hk2 HK
      have hG := Lib.hid HL.out.2
      have I1 : Hid ((n0 : Int) ≤ ((s.size - t.length : Nat) : Int)) := Lib.hid (by omega)
      have I2 : Hid (((s.size - t.length : Nat) : Int) ≤ (s.size : Int)) := Lib.hid (by omega)
      generalize hn : s.size - t.length = n at *
      have HN := Lib.hid hn
      obtain ⟨W, hW⟩ : ∃ W, s.extract n0 n = W := ⟨_, rfl⟩
      have HW := Lib.hid hW
      have hWs : W.size ≤ 140737488355328 := by rw [← hW, ByteArray.size_extract]; omega
      obtain ⟨x0, x1, x2, x3, zz, e1, e2⟩ := PE_eq2 (ps W.data.toList)
      have hPar : Hid (∀ w, Calls Tryd.prog 113 #[.string W] w fun e w' => e = .returned (.tuple #[.agg #[.int .u64 x0, .int .u64 x1, .int .u64 x2, .int .u64 x3], .int .i64 zz]) ∧ Below w.heap.size w w') := Lib.hid fun w => by
        have := parse_any W hWs w; rw [e1] at this; exact this
      have HE2 := Lib.hid e2
      clear hW hn hWs e1 e2 hle
      go_wp2_with fail
      refine wp_region_owed (fun l act w1 => ∃ X : Nat → Value, act = ⟨(List.toArray (.pointer (some ⟨rb, 0, none⟩) :: undef :: .pointer (some ⟨b2, 0, none⟩) :: .int .i64 n0 :: X 14 :: X 16 :: .pointer (some ⟨rb, 0, none⟩) :: .pointer (some ⟨rb, 0, none⟩) :: .pointer (some ⟨rb, 1, none⟩) :: .int .i64 n0 :: .pointer (some ⟨rb, 0, none⟩) :: .bool true :: .pointer (some ⟨rb, 0, none⟩) :: .bool v :: .pointer (some ⟨rb, 0, none⟩) :: .bool true :: .bool false :: u17 :: u18 :: X 11 :: X 0 :: X 1 :: X 2 :: X 3 :: X 4 :: X 5 :: X 6 :: X 7 :: X 8 :: X 9 :: X 10 :: X 12 :: X 13 :: undef :: [])), []⟩ ∧ (∀ i, l i = true → ([0, 1, 2, 3, 4, 5, 6, 7, 8, 9, 10, 11, 12, 13, 16] : List Nat).contains i = true → X i = (fun i => ([.pointer (some ⟨rb, 0, none⟩), .pointer (some ⟨rb, 0, none⟩), .pointer (some ⟨rb, 0, none⟩), .string s, .int .i64 n0, .pointer (some ⟨rb, 0, none⟩), .pointer (some ⟨rb, 0, none⟩), .pointer (some ⟨rb, 1, none⟩), .int .i64 n, .string W, .tuple #[.agg #[.int .u64 x0, .int .u64 x1, .int .u64 x2, .int .u64 x3], .int .i64 zz], .tuple #[.agg #[.int .u64 x0, .int .u64 x1, .int .u64 x2, .int .u64 x3], .int .i64 zz], .agg #[.int .u64 x0, .int .u64 x1, .int .u64 x2, .int .u64 x3], .int .i64 zz, undef, undef, .int .i64 zz] : List Value).getD i undef) i) ∧ (Sb wl w1 [] ∧ Box wl w1 [] 24 (l 14) (l 15) (X 14) #[.int .u64 0, .int .u64 0, .int .u64 0, .int .u64 0] #[.int .u64 x0, .int .u64 x1, .int .u64 x2, .int .u64 x3])) (by kernel_rfl) (by kernel_rfl) ⟨(fun i => ([undef, undef, undef, undef, undef, undef, undef, undef, undef, undef, undef, undef, undef, undef, undef, undef, undef] : List Value).getD i undef), rfl, (fun i h => by cases h), ⟨(Sb.start wl).drew, Box.none⟩⟩ ?stra ?finra
      case stra =>
        go_light
        refine Owed.next (n := 0) (o := ?ora0) ?hora0 ?hra0 ?hsra0
        case hora0 => rfl
        case hra0 =>
          intro l act w1 hw hl hI K hK
          obtain ⟨X, rfl, hX, hT⟩ := hI
          have HX := Lib.hid (packsM 0 hX [] (fun _ h => nomatch h))
          clear hX
          rw [if_pos (by rfl)]
          go_wp2_with fail
          exact hK.out _ _ ⟨fun j => bif (0 :: []).contains j then (fun i => ([.pointer (some ⟨rb, 0, none⟩), .pointer (some ⟨rb, 0, none⟩), .pointer (some ⟨rb, 0, none⟩), .string s, .int .i64 n0, .pointer (some ⟨rb, 0, none⟩), .pointer (some ⟨rb, 0, none⟩), .pointer (some ⟨rb, 1, none⟩), .int .i64 n, .string W, .tuple #[.agg #[.int .u64 x0, .int .u64 x1, .int .u64 x2, .int .u64 x3], .int .i64 zz], .tuple #[.agg #[.int .u64 x0, .int .u64 x1, .int .u64 x2, .int .u64 x3], .int .i64 zz], .agg #[.int .u64 x0, .int .u64 x1, .int .u64 x2, .int .u64 x3], .int .i64 zz, undef, undef, .int .i64 zz] : List Value).getD i undef) j else X j, rfl, HX.out, hT⟩
        refine Owed.next (n := 1) (o := ?ora1) ?hora1 ?hra1 ?hsra1
        case hora1 => rfl
        case hra1 =>
          intro l act w1 hw hl hI K hK
          obtain ⟨X, rfl, hX, hT⟩ := hI
          have h0 : X 0 = .pointer (some ⟨rb, 0, none⟩) := hX 0 (hw 0 (by kernel_rfl)) (by kernel_rfl)
          have HX := Lib.hid (packsM 1 hX [0] (List.forall_mem_cons.2 ⟨hw 0 (by kernel_rfl), (fun _ h => nomatch h)⟩))
          clear hX
          have z := (Gk.up hG.out hT.1.1).2.lt
          rw [h0]
          clear h0
          rw [if_pos (by rfl)]
          go_wp2_with fail
          exact hK.out _ _ ⟨fun j => bif (1 :: [0]).contains j then (fun i => ([.pointer (some ⟨rb, 0, none⟩), .pointer (some ⟨rb, 0, none⟩), .pointer (some ⟨rb, 0, none⟩), .string s, .int .i64 n0, .pointer (some ⟨rb, 0, none⟩), .pointer (some ⟨rb, 0, none⟩), .pointer (some ⟨rb, 1, none⟩), .int .i64 n, .string W, .tuple #[.agg #[.int .u64 x0, .int .u64 x1, .int .u64 x2, .int .u64 x3], .int .i64 zz], .tuple #[.agg #[.int .u64 x0, .int .u64 x1, .int .u64 x2, .int .u64 x3], .int .i64 zz], .agg #[.int .u64 x0, .int .u64 x1, .int .u64 x2, .int .u64 x3], .int .i64 zz, undef, undef, .int .i64 zz] : List Value).getD i undef) j else X j, rfl, HX.out, hT⟩
        refine Owed.next (n := 2) (o := ?ora2) ?hora2 ?hra2 ?hsra2
        case hora2 => rfl
        case hra2 =>
          intro l act w1 hw hl hI K hK
          obtain ⟨X, rfl, hX, hT⟩ := hI
          have h1 : X 1 = .pointer (some ⟨rb, 0, none⟩) := hX 1 (hw 1 (by kernel_rfl)) (by kernel_rfl)
          have HX := Lib.hid (packsM 2 hX [1] (List.forall_mem_cons.2 ⟨hw 1 (by kernel_rfl), (fun _ h => nomatch h)⟩))
          clear hX
          rw [h1]
          clear h1
          rw [if_pos (by rfl)]
          go_wp2_with fail
          exact hK.out _ _ ⟨fun j => bif (2 :: [1]).contains j then (fun i => ([.pointer (some ⟨rb, 0, none⟩), .pointer (some ⟨rb, 0, none⟩), .pointer (some ⟨rb, 0, none⟩), .string s, .int .i64 n0, .pointer (some ⟨rb, 0, none⟩), .pointer (some ⟨rb, 0, none⟩), .pointer (some ⟨rb, 1, none⟩), .int .i64 n, .string W, .tuple #[.agg #[.int .u64 x0, .int .u64 x1, .int .u64 x2, .int .u64 x3], .int .i64 zz], .tuple #[.agg #[.int .u64 x0, .int .u64 x1, .int .u64 x2, .int .u64 x3], .int .i64 zz], .agg #[.int .u64 x0, .int .u64 x1, .int .u64 x2, .int .u64 x3], .int .i64 zz, undef, undef, .int .i64 zz] : List Value).getD i undef) j else X j, rfl, HX.out, hT⟩
        refine Owed.next (n := 3) (o := ?ora3) ?hora3 ?hra3 ?hsra3
        case hora3 => rfl
        case hra3 =>
          intro l act w1 hw hl hI K hK
          obtain ⟨X, rfl, hX, hT⟩ := hI
          have h2 : X 2 = .pointer (some ⟨rb, 0, none⟩) := hX 2 (hw 2 (by kernel_rfl)) (by kernel_rfl)
          have HX := Lib.hid (packsM 3 hX [2] (List.forall_mem_cons.2 ⟨hw 2 (by kernel_rfl), (fun _ h => nomatch h)⟩))
          clear hX
          have c0 := (Gk.up hG.out hT.1.1).2.c0
          rw [h2]
          clear h2
          rw [if_pos (by rfl)]
          go_wp2_with fail
          exact hK.out _ _ ⟨fun j => bif (3 :: [2]).contains j then (fun i => ([.pointer (some ⟨rb, 0, none⟩), .pointer (some ⟨rb, 0, none⟩), .pointer (some ⟨rb, 0, none⟩), .string s, .int .i64 n0, .pointer (some ⟨rb, 0, none⟩), .pointer (some ⟨rb, 0, none⟩), .pointer (some ⟨rb, 1, none⟩), .int .i64 n, .string W, .tuple #[.agg #[.int .u64 x0, .int .u64 x1, .int .u64 x2, .int .u64 x3], .int .i64 zz], .tuple #[.agg #[.int .u64 x0, .int .u64 x1, .int .u64 x2, .int .u64 x3], .int .i64 zz], .agg #[.int .u64 x0, .int .u64 x1, .int .u64 x2, .int .u64 x3], .int .i64 zz, undef, undef, .int .i64 zz] : List Value).getD i undef) j else X j, rfl, HX.out, hT⟩
        refine Owed.next (n := 4) (o := ?ora4) ?hora4 ?hra4 ?hsra4
        case hora4 => rfl
        case hra4 =>
          intro l act w1 hw hl hI K hK
          obtain ⟨X, rfl, hX, hT⟩ := hI
          have HX := Lib.hid (packsM 4 hX [] (fun _ h => nomatch h))
          clear hX
          rw [if_pos (by rfl)]
          go_wp2_with fail
          exact hK.out _ _ ⟨fun j => bif (4 :: []).contains j then (fun i => ([.pointer (some ⟨rb, 0, none⟩), .pointer (some ⟨rb, 0, none⟩), .pointer (some ⟨rb, 0, none⟩), .string s, .int .i64 n0, .pointer (some ⟨rb, 0, none⟩), .pointer (some ⟨rb, 0, none⟩), .pointer (some ⟨rb, 1, none⟩), .int .i64 n, .string W, .tuple #[.agg #[.int .u64 x0, .int .u64 x1, .int .u64 x2, .int .u64 x3], .int .i64 zz], .tuple #[.agg #[.int .u64 x0, .int .u64 x1, .int .u64 x2, .int .u64 x3], .int .i64 zz], .agg #[.int .u64 x0, .int .u64 x1, .int .u64 x2, .int .u64 x3], .int .i64 zz, undef, undef, .int .i64 zz] : List Value).getD i undef) j else X j, rfl, HX.out, hT⟩
        refine Owed.next (n := 5) (o := ?ora5) ?hora5 ?hra5 ?hsra5
        case hora5 => rfl
        case hra5 =>
          intro l act w1 hw hl hI K hK
          obtain ⟨X, rfl, hX, hT⟩ := hI
          have HX := Lib.hid (packsM 5 hX [] (fun _ h => nomatch h))
          clear hX
          rw [if_pos (by rfl)]
          go_wp2_with fail
          exact hK.out _ _ ⟨fun j => bif (5 :: []).contains j then (fun i => ([.pointer (some ⟨rb, 0, none⟩), .pointer (some ⟨rb, 0, none⟩), .pointer (some ⟨rb, 0, none⟩), .string s, .int .i64 n0, .pointer (some ⟨rb, 0, none⟩), .pointer (some ⟨rb, 0, none⟩), .pointer (some ⟨rb, 1, none⟩), .int .i64 n, .string W, .tuple #[.agg #[.int .u64 x0, .int .u64 x1, .int .u64 x2, .int .u64 x3], .int .i64 zz], .tuple #[.agg #[.int .u64 x0, .int .u64 x1, .int .u64 x2, .int .u64 x3], .int .i64 zz], .agg #[.int .u64 x0, .int .u64 x1, .int .u64 x2, .int .u64 x3], .int .i64 zz, undef, undef, .int .i64 zz] : List Value).getD i undef) j else X j, rfl, HX.out, hT⟩
        refine Owed.next (n := 6) (o := ?ora6) ?hora6 ?hra6 ?hsra6
        case hora6 => rfl
        case hra6 =>
          intro l act w1 hw hl hI K hK
          obtain ⟨X, rfl, hX, hT⟩ := hI
          have h5 : X 5 = .pointer (some ⟨rb, 0, none⟩) := hX 5 (hw 5 (by kernel_rfl)) (by kernel_rfl)
          have HX := Lib.hid (packsM 6 hX [5] (List.forall_mem_cons.2 ⟨hw 5 (by kernel_rfl), (fun _ h => nomatch h)⟩))
          clear hX
          have z := (Gk.up hG.out hT.1.1).2.lt
          rw [h5]
          clear h5
          rw [if_pos (by rfl)]
          go_wp2_with fail
          exact hK.out _ _ ⟨fun j => bif (6 :: [5]).contains j then (fun i => ([.pointer (some ⟨rb, 0, none⟩), .pointer (some ⟨rb, 0, none⟩), .pointer (some ⟨rb, 0, none⟩), .string s, .int .i64 n0, .pointer (some ⟨rb, 0, none⟩), .pointer (some ⟨rb, 0, none⟩), .pointer (some ⟨rb, 1, none⟩), .int .i64 n, .string W, .tuple #[.agg #[.int .u64 x0, .int .u64 x1, .int .u64 x2, .int .u64 x3], .int .i64 zz], .tuple #[.agg #[.int .u64 x0, .int .u64 x1, .int .u64 x2, .int .u64 x3], .int .i64 zz], .agg #[.int .u64 x0, .int .u64 x1, .int .u64 x2, .int .u64 x3], .int .i64 zz, undef, undef, .int .i64 zz] : List Value).getD i undef) j else X j, rfl, HX.out, hT⟩
        refine Owed.next (n := 7) (o := ?ora7) ?hora7 ?hra7 ?hsra7
        case hora7 => rfl
        case hra7 =>
          intro l act w1 hw hl hI K hK
          obtain ⟨X, rfl, hX, hT⟩ := hI
          have h6 : X 6 = .pointer (some ⟨rb, 0, none⟩) := hX 6 (hw 6 (by kernel_rfl)) (by kernel_rfl)
          have HX := Lib.hid (packsM 7 hX [6] (List.forall_mem_cons.2 ⟨hw 6 (by kernel_rfl), (fun _ h => nomatch h)⟩))
          clear hX
          rw [h6]
          clear h6
          rw [if_pos (by rfl)]
          go_wp2_with fail
          exact hK.out _ _ ⟨fun j => bif (7 :: [6]).contains j then (fun i => ([.pointer (some ⟨rb, 0, none⟩), .pointer (some ⟨rb, 0, none⟩), .pointer (some ⟨rb, 0, none⟩), .string s, .int .i64 n0, .pointer (some ⟨rb, 0, none⟩), .pointer (some ⟨rb, 0, none⟩), .pointer (some ⟨rb, 1, none⟩), .int .i64 n, .string W, .tuple #[.agg #[.int .u64 x0, .int .u64 x1, .int .u64 x2, .int .u64 x3], .int .i64 zz], .tuple #[.agg #[.int .u64 x0, .int .u64 x1, .int .u64 x2, .int .u64 x3], .int .i64 zz], .agg #[.int .u64 x0, .int .u64 x1, .int .u64 x2, .int .u64 x3], .int .i64 zz, undef, undef, .int .i64 zz] : List Value).getD i undef) j else X j, rfl, HX.out, hT⟩
        refine Owed.next (n := 8) (o := ?ora8) ?hora8 ?hra8 ?hsra8
        case hora8 => rfl
        case hra8 =>
          intro l act w1 hw hl hI K hK
          obtain ⟨X, rfl, hX, hT⟩ := hI
          have h7 : X 7 = .pointer (some ⟨rb, 1, none⟩) := hX 7 (hw 7 (by kernel_rfl)) (by kernel_rfl)
          have HX := Lib.hid (packsM 8 hX [7] (List.forall_mem_cons.2 ⟨hw 7 (by kernel_rfl), (fun _ h => nomatch h)⟩))
          clear hX
          have c1 := (Gk.up hG.out hT.1.1).2.c1
          rw [h7]
          clear h7
          rw [if_pos (by rfl)]
          go_wp2_with fail
          exact hK.out _ _ ⟨fun j => bif (8 :: [7]).contains j then (fun i => ([.pointer (some ⟨rb, 0, none⟩), .pointer (some ⟨rb, 0, none⟩), .pointer (some ⟨rb, 0, none⟩), .string s, .int .i64 n0, .pointer (some ⟨rb, 0, none⟩), .pointer (some ⟨rb, 0, none⟩), .pointer (some ⟨rb, 1, none⟩), .int .i64 n, .string W, .tuple #[.agg #[.int .u64 x0, .int .u64 x1, .int .u64 x2, .int .u64 x3], .int .i64 zz], .tuple #[.agg #[.int .u64 x0, .int .u64 x1, .int .u64 x2, .int .u64 x3], .int .i64 zz], .agg #[.int .u64 x0, .int .u64 x1, .int .u64 x2, .int .u64 x3], .int .i64 zz, undef, undef, .int .i64 zz] : List Value).getD i undef) j else X j, rfl, HX.out, hT⟩
        refine Owed.next (n := 9) (o := ?ora9) ?hora9 ?hra9 ?hsra9
        case hora9 => rfl
        case hra9 =>
          intro l act w1 hw hl hI K hK
          obtain ⟨X, rfl, hX, hT⟩ := hI
          have h3 : X 3 = .string s := hX 3 (hw 3 (by kernel_rfl)) (by kernel_rfl)
          have h4 : X 4 = .int .i64 n0 := hX 4 (hw 4 (by kernel_rfl)) (by kernel_rfl)
          have h8 : X 8 = .int .i64 n := hX 8 (hw 8 (by kernel_rfl)) (by kernel_rfl)
          have HX := Lib.hid (packsM 9 hX [3, 4, 8] (List.forall_mem_cons.2 ⟨hw 3 (by kernel_rfl), (List.forall_mem_cons.2 ⟨hw 4 (by kernel_rfl), (List.forall_mem_cons.2 ⟨hw 8 (by kernel_rfl), (fun _ h => nomatch h)⟩)⟩)⟩))
          clear hX
          have i1 := I1.out
          have i2 := I2.out
          rw [h3, h4, h8]
          clear h3 h4 h8
          rw [if_pos (by rfl)]
          go_wp2_with fail
          rw [HW.out]
          exact hK.out _ _ ⟨fun j => bif (9 :: [3, 4, 8]).contains j then (fun i => ([.pointer (some ⟨rb, 0, none⟩), .pointer (some ⟨rb, 0, none⟩), .pointer (some ⟨rb, 0, none⟩), .string s, .int .i64 n0, .pointer (some ⟨rb, 0, none⟩), .pointer (some ⟨rb, 0, none⟩), .pointer (some ⟨rb, 1, none⟩), .int .i64 n, .string W, .tuple #[.agg #[.int .u64 x0, .int .u64 x1, .int .u64 x2, .int .u64 x3], .int .i64 zz], .tuple #[.agg #[.int .u64 x0, .int .u64 x1, .int .u64 x2, .int .u64 x3], .int .i64 zz], .agg #[.int .u64 x0, .int .u64 x1, .int .u64 x2, .int .u64 x3], .int .i64 zz, undef, undef, .int .i64 zz] : List Value).getD i undef) j else X j, rfl, HX.out, hT⟩
        refine Owed.next (n := 10) (o := ?ora10) ?hora10 ?hra10 ?hsra10
        case hora10 => rfl
        case hra10 =>
          intro l act w1 hw hl hI K hK
          obtain ⟨X, rfl, hX, hT⟩ := hI
          have h9 : X 9 = .string W := hX 9 (hw 9 (by kernel_rfl)) (by kernel_rfl)
          have HX := Lib.hid (packsM 10 hX [9] (List.forall_mem_cons.2 ⟨hw 9 (by kernel_rfl), (fun _ h => nomatch h)⟩))
          clear hX
          rw [h9]
          clear h9
          rw [if_pos (by rfl)]
          go_wp2_with fail
          refine (hPar.out _).mono ?_
          rintro _ w2 ⟨rfl, hb⟩
          exact hK.out _ _ ⟨fun j => bif (10 :: [9]).contains j then (fun i => ([.pointer (some ⟨rb, 0, none⟩), .pointer (some ⟨rb, 0, none⟩), .pointer (some ⟨rb, 0, none⟩), .string s, .int .i64 n0, .pointer (some ⟨rb, 0, none⟩), .pointer (some ⟨rb, 0, none⟩), .pointer (some ⟨rb, 1, none⟩), .int .i64 n, .string W, .tuple #[.agg #[.int .u64 x0, .int .u64 x1, .int .u64 x2, .int .u64 x3], .int .i64 zz], .tuple #[.agg #[.int .u64 x0, .int .u64 x1, .int .u64 x2, .int .u64 x3], .int .i64 zz], .agg #[.int .u64 x0, .int .u64 x1, .int .u64 x2, .int .u64 x3], .int .i64 zz, undef, undef, .int .i64 zz] : List Value).getD i undef) j else X j, rfl, HX.out, ⟨hT.1.up hb, hT.2.up hb⟩⟩
        refine Owed.next (n := 11) (o := ?ora11) ?hora11 ?hra11 ?hsra11
        case hora11 => rfl
        case hra11 =>
          intro l act w1 hw hl hI K hK
          obtain ⟨X, rfl, hX, hT⟩ := hI
          have h10 : X 10 = .tuple #[.agg #[.int .u64 x0, .int .u64 x1, .int .u64 x2, .int .u64 x3], .int .i64 zz] := hX 10 (hw 10 (by kernel_rfl)) (by kernel_rfl)
          have HX := Lib.hid (packsM 11 hX [10] (List.forall_mem_cons.2 ⟨hw 10 (by kernel_rfl), (fun _ h => nomatch h)⟩))
          clear hX
          rw [h10]
          clear h10
          rw [if_pos (by rfl)]
          go_wp2_with fail
          exact hK.out _ _ ⟨fun j => bif (11 :: [10]).contains j then (fun i => ([.pointer (some ⟨rb, 0, none⟩), .pointer (some ⟨rb, 0, none⟩), .pointer (some ⟨rb, 0, none⟩), .string s, .int .i64 n0, .pointer (some ⟨rb, 0, none⟩), .pointer (some ⟨rb, 0, none⟩), .pointer (some ⟨rb, 1, none⟩), .int .i64 n, .string W, .tuple #[.agg #[.int .u64 x0, .int .u64 x1, .int .u64 x2, .int .u64 x3], .int .i64 zz], .tuple #[.agg #[.int .u64 x0, .int .u64 x1, .int .u64 x2, .int .u64 x3], .int .i64 zz], .agg #[.int .u64 x0, .int .u64 x1, .int .u64 x2, .int .u64 x3], .int .i64 zz, undef, undef, .int .i64 zz] : List Value).getD i undef) j else X j, rfl, HX.out, hT⟩
        refine Owed.next (n := 12) (o := ?ora12) ?hora12 ?hra12 ?hsra12
        case hora12 => rfl
        case hra12 =>
          intro l act w1 hw hl hI K hK
          obtain ⟨X, rfl, hX, hT⟩ := hI
          have h11 : X 11 = .tuple #[.agg #[.int .u64 x0, .int .u64 x1, .int .u64 x2, .int .u64 x3], .int .i64 zz] := hX 11 (hw 11 (by kernel_rfl)) (by kernel_rfl)
          have HX := Lib.hid (packsM 12 hX [11] (List.forall_mem_cons.2 ⟨hw 11 (by kernel_rfl), (fun _ h => nomatch h)⟩))
          clear hX
          rw [h11]
          clear h11
          rw [if_pos (by rfl)]
          go_wp2_with fail
          exact hK.out _ _ ⟨fun j => bif (12 :: [11]).contains j then (fun i => ([.pointer (some ⟨rb, 0, none⟩), .pointer (some ⟨rb, 0, none⟩), .pointer (some ⟨rb, 0, none⟩), .string s, .int .i64 n0, .pointer (some ⟨rb, 0, none⟩), .pointer (some ⟨rb, 0, none⟩), .pointer (some ⟨rb, 1, none⟩), .int .i64 n, .string W, .tuple #[.agg #[.int .u64 x0, .int .u64 x1, .int .u64 x2, .int .u64 x3], .int .i64 zz], .tuple #[.agg #[.int .u64 x0, .int .u64 x1, .int .u64 x2, .int .u64 x3], .int .i64 zz], .agg #[.int .u64 x0, .int .u64 x1, .int .u64 x2, .int .u64 x3], .int .i64 zz, undef, undef, .int .i64 zz] : List Value).getD i undef) j else X j, rfl, HX.out, hT⟩
        refine Owed.next (n := 13) (o := ?ora13) ?hora13 ?hra13 ?hsra13
        case hora13 => rfl
        case hra13 =>
          intro l act w1 hw hl hI K hK
          obtain ⟨X, rfl, hX, hT⟩ := hI
          have h11 : X 11 = .tuple #[.agg #[.int .u64 x0, .int .u64 x1, .int .u64 x2, .int .u64 x3], .int .i64 zz] := hX 11 (hw 11 (by kernel_rfl)) (by kernel_rfl)
          have HX := Lib.hid (packsM 13 hX [11] (List.forall_mem_cons.2 ⟨hw 11 (by kernel_rfl), (fun _ h => nomatch h)⟩))
          clear hX
          rw [h11]
          clear h11
          rw [if_pos (by rfl)]
          go_wp2_with fail
          exact hK.out _ _ ⟨fun j => bif (13 :: [11]).contains j then (fun i => ([.pointer (some ⟨rb, 0, none⟩), .pointer (some ⟨rb, 0, none⟩), .pointer (some ⟨rb, 0, none⟩), .string s, .int .i64 n0, .pointer (some ⟨rb, 0, none⟩), .pointer (some ⟨rb, 0, none⟩), .pointer (some ⟨rb, 1, none⟩), .int .i64 n, .string W, .tuple #[.agg #[.int .u64 x0, .int .u64 x1, .int .u64 x2, .int .u64 x3], .int .i64 zz], .tuple #[.agg #[.int .u64 x0, .int .u64 x1, .int .u64 x2, .int .u64 x3], .int .i64 zz], .agg #[.int .u64 x0, .int .u64 x1, .int .u64 x2, .int .u64 x3], .int .i64 zz, undef, undef, .int .i64 zz] : List Value).getD i undef) j else X j, rfl, HX.out, hT⟩
        refine Owed.next (n := 14) (o := ?ora14) ?hora14 ?hra14 ?hsra14
        case hora14 => rfl
        case hra14 =>
          intro l act w1 hw hl hI K hK
          obtain ⟨X, rfl, hX, hT⟩ := hI
          have HX := fun v => Lib.hid (packsN 14 v hX (by kernel_rfl) [] (fun _ h => nomatch h))
          clear hX
          rw [hl] at hT
          rw [if_pos (by rfl)]
          go_wp2_with fail
          exact hK.out _ _ ⟨fun j => bif [14].contains j then .pointer (some ⟨w1.heap.size, 0, none⟩) else bif ([] : List Nat).contains j then (fun i => ([.pointer (some ⟨rb, 0, none⟩), .pointer (some ⟨rb, 0, none⟩), .pointer (some ⟨rb, 0, none⟩), .string s, .int .i64 n0, .pointer (some ⟨rb, 0, none⟩), .pointer (some ⟨rb, 0, none⟩), .pointer (some ⟨rb, 1, none⟩), .int .i64 n, .string W, .tuple #[.agg #[.int .u64 x0, .int .u64 x1, .int .u64 x2, .int .u64 x3], .int .i64 zz], .tuple #[.agg #[.int .u64 x0, .int .u64 x1, .int .u64 x2, .int .u64 x3], .int .i64 zz], .agg #[.int .u64 x0, .int .u64 x1, .int .u64 x2, .int .u64 x3], .int .i64 zz, undef, undef, .int .i64 zz] : List Value).getD i undef) j else X j, rfl, (HX _).out, ⟨(hT.1.alloc _).tl, by rw [hT.2.no]; exact Box.new hT.1⟩⟩
        refine Owed.next (n := 15) (o := ?ora15) ?hora15 ?hra15 ?hsra15
        case hora15 => rfl
        case hra15 =>
          intro l act w1 hw hl hI K hK
          obtain ⟨X, rfl, hX, hT⟩ := hI
          have h12 : X 12 = .agg #[.int .u64 x0, .int .u64 x1, .int .u64 x2, .int .u64 x3] := hX 12 (hw 12 (by kernel_rfl)) (by kernel_rfl)
          have HX := fun v => Lib.hid (packsN 15 v hX (by kernel_rfl) [12] (List.forall_mem_cons.2 ⟨hw 12 (by kernel_rfl), (fun _ h => nomatch h)⟩))
          clear hX
          have u6 := hw 14 (by kernel_rfl)
          rw [hl, u6] at hT
          obtain ⟨g, hg⟩ := hT.2.ptr
          rw [h12]
          clear h12
          rw [if_pos (by rfl)]
          refine wp_store_row 24 (.tmp 4) (.tmp 31) rfl g (#[.int .u64 x0, .int .u64 x1, .int .u64 x2, .int .u64 x3]) hg rfl 24 _ (hT.2.old' hg) (by kernel_rfl) rfl (all4 _ _ _ _) ?_
          exact hK.out _ _ ⟨fun j => bif [15].contains j then undef else bif ([12] : List Nat).contains j then (fun i => ([.pointer (some ⟨rb, 0, none⟩), .pointer (some ⟨rb, 0, none⟩), .pointer (some ⟨rb, 0, none⟩), .string s, .int .i64 n0, .pointer (some ⟨rb, 0, none⟩), .pointer (some ⟨rb, 0, none⟩), .pointer (some ⟨rb, 1, none⟩), .int .i64 n, .string W, .tuple #[.agg #[.int .u64 x0, .int .u64 x1, .int .u64 x2, .int .u64 x3], .int .i64 zz], .tuple #[.agg #[.int .u64 x0, .int .u64 x1, .int .u64 x2, .int .u64 x3], .int .i64 zz], .agg #[.int .u64 x0, .int .u64 x1, .int .u64 x2, .int .u64 x3], .int .i64 zz, undef, undef, .int .i64 zz] : List Value).getD i undef) j else X j, rfl, (HX _).out, by have h4 := hT.2; rw [hg] at h4; have h5 := h4.keep hT.1 #[.int .u64 x0, .int .u64 x1, .int .u64 x2, .int .u64 x3]; have h6 := h4.put; rw [← hg] at h6; exact ⟨h5, by simpa [u6] using h6⟩⟩
        refine Owed.next (n := 16) (o := ?ora16) ?hora16 ?hra16 ?hsra16
        case hora16 => rfl
        case hra16 =>
          intro l act w1 hw hl hI K hK
          obtain ⟨X, rfl, hX, hT⟩ := hI
          have h13 : X 13 = .int .i64 zz := hX 13 (hw 13 (by kernel_rfl)) (by kernel_rfl)
          have HX := Lib.hid (packsM 16 hX [13] (List.forall_mem_cons.2 ⟨hw 13 (by kernel_rfl), (fun _ h => nomatch h)⟩))
          clear hX
          rw [h13]
          clear h13
          rw [if_pos (by rfl)]
          go_wp2_with fail
          exact hK.out _ _ ⟨fun j => bif (16 :: [13]).contains j then (fun i => ([.pointer (some ⟨rb, 0, none⟩), .pointer (some ⟨rb, 0, none⟩), .pointer (some ⟨rb, 0, none⟩), .string s, .int .i64 n0, .pointer (some ⟨rb, 0, none⟩), .pointer (some ⟨rb, 0, none⟩), .pointer (some ⟨rb, 1, none⟩), .int .i64 n, .string W, .tuple #[.agg #[.int .u64 x0, .int .u64 x1, .int .u64 x2, .int .u64 x3], .int .i64 zz], .tuple #[.agg #[.int .u64 x0, .int .u64 x1, .int .u64 x2, .int .u64 x3], .int .i64 zz], .agg #[.int .u64 x0, .int .u64 x1, .int .u64 x2, .int .u64 x3], .int .i64 zz, undef, undef, .int .i64 zz] : List Value).getD i undef) j else X j, rfl, HX.out, hT⟩
        exact Owed.last rfl
      case finra =>
        intro l act w1 hl hI
        obtain ⟨X, rfl, hX, hT⟩ := hI
        have h0 : X 0 = .pointer (some ⟨rb, 0, none⟩) := hX 0 (hl 0 (by kernel_rfl)) (by kernel_rfl)
        have h1 : X 1 = .pointer (some ⟨rb, 0, none⟩) := hX 1 (hl 1 (by kernel_rfl)) (by kernel_rfl)
        have h2 : X 2 = .pointer (some ⟨rb, 0, none⟩) := hX 2 (hl 2 (by kernel_rfl)) (by kernel_rfl)
        have h3 : X 3 = .string s := hX 3 (hl 3 (by kernel_rfl)) (by kernel_rfl)
        have h4 : X 4 = .int .i64 n0 := hX 4 (hl 4 (by kernel_rfl)) (by kernel_rfl)
        have h5 : X 5 = .pointer (some ⟨rb, 0, none⟩) := hX 5 (hl 5 (by kernel_rfl)) (by kernel_rfl)
        have h6 : X 6 = .pointer (some ⟨rb, 0, none⟩) := hX 6 (hl 6 (by kernel_rfl)) (by kernel_rfl)
        have h7 : X 7 = .pointer (some ⟨rb, 1, none⟩) := hX 7 (hl 7 (by kernel_rfl)) (by kernel_rfl)
        have h8 : X 8 = .int .i64 n := hX 8 (hl 8 (by kernel_rfl)) (by kernel_rfl)
        have h9 : X 9 = .string W := hX 9 (hl 9 (by kernel_rfl)) (by kernel_rfl)
        have h10 : X 10 = .tuple #[.agg #[.int .u64 x0, .int .u64 x1, .int .u64 x2, .int .u64 x3], .int .i64 zz] := hX 10 (hl 10 (by kernel_rfl)) (by kernel_rfl)
        have h11 : X 11 = .tuple #[.agg #[.int .u64 x0, .int .u64 x1, .int .u64 x2, .int .u64 x3], .int .i64 zz] := hX 11 (hl 11 (by kernel_rfl)) (by kernel_rfl)
        have h12 : X 12 = .agg #[.int .u64 x0, .int .u64 x1, .int .u64 x2, .int .u64 x3] := hX 12 (hl 12 (by kernel_rfl)) (by kernel_rfl)
        have h13 : X 13 = .int .i64 zz := hX 13 (hl 13 (by kernel_rfl)) (by kernel_rfl)
        have h16 : X 16 = .int .i64 zz := hX 16 (hl 16 (by kernel_rfl)) (by kernel_rfl)
        rw [h0, h1, h2, h3, h4, h5, h6, h7, h8, h9, h10, h11, h12, h13, h16]
        clear h0 h1 h2 h3 h4 h5 h6 h7 h8 h9 h10 h11 h12 h13 h16 hX
        rw [hl 14 (by kernel_rfl), hl 15 (by kernel_rfl)] at hT
        obtain ⟨g, hg⟩ := hT.2.ptr
        rw [hg] at hT ⊢
        have HS := Lib.hid (hT.2.cons hT.1)
        have hrow : w1.heap[g]? = some (.cells #[.int .u64 x0, .int .u64 x1, .int .u64 x2, .int .u64 x3] 24) := HS.out.heap
        have hb2w : w1.heap[b2]? = some (.cells #[.int .u64 0, .int .u64 0, .int .u64 0, .int .u64 0] 24) := by
          have hlt := (Array.getElem?_eq_some_iff.1 HB2.out).1
          rw [hT.1.1.block b2 (Nat.lt_of_lt_of_le hlt HL.out.1.size), HL.out.1.block b2 hlt (fun e => hne (Option.some.inj e)), HB2.out]
        have HB1 := Lib.hid hT.1.1
        have HX := Lib.hid hrow
        have HY := Lib.hid hb2w
        clear hrow hb2w hT hl hg
        go_wp2_with (first | (refine wpList_load_row rfl 24 (.tmp 4) rfl g rfl 24 _ (0, 0) _ HX.out Tryd.underlying24 rfl (by kernel_rfl) ?_) | (refine wpList_store_row rfl 24 (.tmp 2) (.tmp 33) rfl b2 _ rfl rfl 24 _ HY.out (by kernel_rfl) rfl (all4 _ _ _ _) ?_))
        refine bodyPost_ret (v := .agg #[.int .u64 x0, .int .u64 x1, .int .u64 x2, .int .u64 x3]) (results_cell_row rfl _ _ b2 24 _ (0, 0) _ rfl (setRow_heap w1 b2 _ _ 24 (0, 0) HY.out) Tryd.underlying24 rfl (by kernel_rfl)) rfl ?_
        unfold ClsR
        simp only []
        refine ⟨?_, ?_⟩
        · rw [HN.out, HW.out, HE2.out]
        · have hk := Gk.row (b := b2) (cs := #[.int .u64 x0, .int .u64 x1, .int .u64 x2, .int .u64 x3]) ((HU.out.trans HL.out).trans (Gk.up HL.out.2 HB1.out)) (by omega) hne
          rw [← HN.out] at hk
          exact .of hsuf hk
    · rw [decide_eq_false hh, if_neg hh] at hp
      have hitq : Hid (∀ w, GA rb s q w → Calls Tryd.prog 112 #[.pointer (some ⟨rb, 0, none⟩)] w (StepP rb s w (itl q) fun _ => .tuple #[])) := Lib.hid fun w h => hIT.out q w h
      cases hi : itl q with
      | error t =>
        have hr : Except.error t = R := by rw [← HC.out, cl, if_neg hh, hi]
        subst hr
        rw [hi] at hitq
        clear HC hh hi hk hqq
        go_wp2_with fail
        refine (hp.out _ HK.out.2.2).mono ?_
        rintro _ wp ⟨rfl, hk2⟩
        have HP : Hid (GK rb s q wA wp) := Lib.hid (.of HK.out.2.1 (HK.out.gk.trans hk2))
        clear hk2
        go_wp2_with fail
        refine (hitq.out _ HP.out.2).mono ?_
        rintro _ w5 ⟨rfl, h5⟩
        have H5 : Hid (GK rb s t w w5) := Lib.hid (.of h5.2.1 ((HU.out.trans HP.out.gk).trans h5.gk))
        clear h5
        unfold boom
        go_wp2
        exact ⟨rfl, rfl, H5.out⟩
      | ok v =>
        obtain ⟨⟨⟩, r⟩ := v
        have hl := itl_len hi
        have HC2 : Hid (cl k r = R) := Lib.hid (by rw [← HC.out, cl, if_neg hh, hi])
        rw [hi] at hitq
        clear HC hh hi
        go_wp2_with fail
        refine (hp.out _ HK.out.2.2).mono ?_
        rintro _ wp ⟨rfl, hk2⟩
        have HP : Hid (GK rb s q wA wp) := Lib.hid (.of HK.out.2.1 (HK.out.gk.trans hk2))
        clear hk2
        go_wp2_with fail
        refine (hitq.out _ HP.out.2).mono ?_
        rintro _ w5 ⟨rfl, h5⟩
        have H5 : Hid (GK rb s r wA w5) := Lib.hid (HP.out.trans h5)
        have hm : s.size - atR rb w5 < s.size - atR rb wo := by
          rw [H5.out.2.2.at, HK.out.2.2.at]
          have h6 := HK.out.2.1.len
          omega
        clear h5
        go_wp2_with fail
        go_roundw
        case rel => exact ⟨r, k, by omega, by omega, HC2, H5⟩
        case measure => exact hm
end Go.Proofs.YtmjojahkbjlcdaaDoor
