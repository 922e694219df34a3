/- Texts of package regs, one behind the other. -/
import Derived.Test.YtmjojahkbjlcdaaDoorProg
import Derived.Test.YtmjojahkbjlcdaaDoorY3
import Derived.Test.YtmjojahkbjlcdaaDoorY4
import Derived.WalkKit
import Derived.WalkLawsBesides
import Derived.WalkSpells
import Derived.Outline
import Derived.Lib.Walk
import Derived.Lib.Hide
import Derived.RegionTactic
import Derived.LoopTactic
import Derived.Below
import Derived.IntWalk
import Derived.Deep.QuietTactic
import Derived.BigQuiet
import Derived.Test.YtmjojahkbjlcdaaDoorY6
import Derived.Test.YtmjojahkbjlcdaaDoorY7
section
/- Package regs: the reader's small steps: what comes next. -/
namespace Go.Proofs.YtmjojahkbjlcdaaDoor
set_option linter.unusedSimpArgs false
set_option linter.unusedVariables false
set_option maxRecDepth 100000
open Go.RowKit

/-- The bytes x are written so. -/
def Wrt (w : List UInt8) (x : UInt8) : Prop := (∃ d, w = [92, d] ∧ mt d = some x) ∨ (w = [x] ∧ x ≠ 92 ∧ sp x = false)
theorem Wrt.one {w : List UInt8} {x : UInt8} (h : Wrt w x) (r : List UInt8) : one (w ++ r) = some (x, r) := by
  rcases h with ⟨d, rfl, hd⟩ | ⟨rfl, h1, h2⟩
  · simp [YtmjojahkbjlcdaaDoor.one, hd]
  · simp [YtmjojahkbjlcdaaDoor.one, h1, h2]
theorem Wrt.head {w : List UInt8} {x : UInt8} (h : Wrt w x) : ∃ c t, w = c :: t ∧ c ≠ 93 ∧ c ≠ 94 ∧ c ≠ 45 := by
  rcases h with ⟨d, rfl, hd⟩ | ⟨rfl, h1, h2⟩
  · exact ⟨92, [d], rfl, by decide, by decide, by decide⟩
  · refine ⟨x, [], rfl, ?_, ?_, ?_⟩ <;> (rintro rfl; revert h2; decide)
theorem cls_open {c : UInt8} (r : List UInt8) (h : c ≠ 94) : cls (91 :: c :: r) = bd (c :: r) fun _ => false := by
  simp [cls, h]
/-- Is it an item, of two bytes that are written so? -/
def isI (a b : List UInt8) : Bool := (ps (91 :: (a ++ 45 :: (b ++ [93])))).isSome
theorem isI_two {a b : List UInt8} {x y : UInt8} (ha : Wrt a x) (hb : Wrt b y) : isI a b = decide (x ≤ y) := by
  obtain ⟨c, t, rfl, h1, h2, h3⟩ := ha.head
  have e1 := ha.one (45 :: (b ++ [93]))
  have e2 := hb.one [93]
  have ei : itm ((c :: t) ++ 45 :: (b ++ [93])) = if x ≤ y then some (x, y, [93]) else none := by
    unfold itm; rw [e1]; simp only [if_true, e2]
  unfold isI ps
  have e0 : cls (91 :: ((c :: t) ++ 45 :: (b ++ [93]))) = bd ((c :: t) ++ 45 :: (b ++ [93])) fun _ => false := cls_open _ h2
  rw [e0]
  by_cases hxy : x ≤ y
  · rw [if_pos hxy, List.cons_append] at ei
    have := bd_item c (t ++ 45 :: (b ++ [93])) (fun _ => false) h1 x y [93] ei
    rw [List.cons_append, this, bd_end]
    simp [hxy]
  · rw [if_neg hxy, List.cons_append] at ei
    have := bd_bad c (t ++ 45 :: (b ++ [93])) (fun _ => false) h1 ei
    rw [List.cons_append, this]
    simp [hxy]
theorem isI_esc {d : UInt8} (h : mt d = none) : isI [92, d] [92, d] = false := by
  unfold isI ps
  rw [show cls (91 :: ([92, d] ++ 45 :: ([92, d] ++ [93]))) = bd (92 :: d :: 45 :: 92 :: d :: [93]) fun _ => false from cls_open _ (by decide)]
  rw [bd_bad 92 _ _ (by decide) (by simp [itm, one, h])]
  rfl
theorem isI_sp {c : UInt8} (h0 : c ≠ 92) (h : sp c = true) : isI [c] [c] = false := by
  have hc : c = 91 ∨ c = 93 ∨ c = 94 ∨ c = 45 := by
    unfold sp at h
    simp only [Bool.or_eq_true, beq_iff_eq] at h
    rcases h with (((h | h) | h) | h) | h
    · exact absurd h h0
    · exact .inl h
    · exact .inr (.inl h)
    · exact .inr (.inr (.inl h))
    · exact .inr (.inr (.inr h))
  rcases hc with rfl | rfl | rfl | rfl <;> decide
/-- A byte of a class: how it is written, what it is, and what is left. -/
def wtn : List UInt8 → Except (List UInt8) ((List UInt8 × UInt8) × List UInt8)
  | [] => .error []
  | 92 :: [] => .error []
  | 92 :: d :: q => match mt d with
    | some x => .ok (([92, d], x), q)
    | none => .error (d :: q)
  | c :: q => if sp c then .error (c :: q) else .ok (([c], c), q)
theorem wtn_ok {l : List UInt8} {w : List UInt8} {x : UInt8} {q : List UInt8} (h : wtn l = .ok ((w, x), q)) : Wrt w x ∧ l = w ++ q := by
  unfold wtn at h
  split at h
  · cases h
  · cases h
  · split at h
    · cases h; exact ⟨.inl ⟨_, rfl, by assumption⟩, rfl⟩
    · cases h
  · rename_i c q' h1 h2
    split at h
    · cases h
    · rename_i hs
      cases h
      refine ⟨.inr ⟨rfl, ?_, by simpa using hs⟩, rfl⟩
      intro hc
      cases q with
      | nil => exact h1 hc rfl
      | cons d r => exact h2 d r hc rfl
theorem Suf.ext {s : ByteArray} {a q : List UInt8} (h : Suf s (a ++ q)) : s.extract (s.size - (a ++ q).length) (s.size - q.length) = bs a := by
  obtain ⟨p, hp⟩ := h
  have h1 : s.data.toList.length = s.size := by simp
  have h2 : s.size - (a ++ q).length = p.length := by rw [hp] at h1; simp only [List.length_append] at h1 ⊢; omega
  have h3 : s.size - q.length = p.length + a.length := by rw [hp] at h1; simp only [List.length_append] at h1 ⊢; omega
  rw [h2, h3]
  apply ByteArray.ext
  rw [ByteArray.data_extract]
  apply Array.toList_inj.mp
  rw [Array.toList_extract, hp, List.extract_eq_drop_take']
  show List.drop p.length (List.take (p.length + a.length) (p ++ (a ++ q))) = a
  rw [← List.append_assoc, List.take_left' (by simp), List.drop_left' rfl]

def errZ : Value := .agg #[.int .u64 0, .int .u64 0, .int .u64 0, .int .u64 0]
set_option maxHeartbeats 2000000 in
theorem isItem_step (A B L : ByteArray) (v : Bool) (x0 x1 x2 x3 z : Int) (hz : (z == 0) = v) (w : World) (hA : A.size ≤ 1000) (hB : B.size ≤ 1000) (hL : ((((⟨#[91]⟩ : ByteArray) ++ A) ++ (⟨#[45]⟩ : ByteArray)) ++ B) ++ (⟨#[93]⟩ : ByteArray) = L)
    (hP : Hid (∀ w, Calls Tryd.prog 113 #[.string L] w fun e w' => e = .returned (.tuple #[.agg #[.int .u64 x0, .int .u64 x1, .int .u64 x2, .int .u64 x3], .int .i64 z]) ∧ Below w.heap.size w w')) :
    Calls Tryd.prog 115 #[.string A, .string B] w fun e w' => e = .returned (.bool v) ∧ Below w.heap.size w w' := by
  have e1 : (⟨#[91]⟩ : ByteArray).size = 1 := rfl
  have e2 : (⟨#[45]⟩ : ByteArray).size = 1 := rfl
  have e3 : (⟨#[93]⟩ : ByteArray).size = 1 := rfl
  have k1 : ¬ 9223372036854775807 < (⟨#[91]⟩ : ByteArray).size + A.size := by rw [e1]; omega
  have k2 : ¬ 9223372036854775807 < ((⟨#[91]⟩ : ByteArray) ++ A).size + (⟨#[45]⟩ : ByteArray).size := by rw [ByteArray.size_append, e1, e2]; omega
  have k3 : ¬ 9223372036854775807 < (((⟨#[91]⟩ : ByteArray) ++ A) ++ (⟨#[45]⟩ : ByteArray)).size + B.size := by rw [ByteArray.size_append, ByteArray.size_append, e1, e2]; omega
  have k4 : ¬ 9223372036854775807 < ((((⟨#[91]⟩ : ByteArray) ++ A) ++ (⟨#[45]⟩ : ByteArray)) ++ B).size + (⟨#[93]⟩ : ByteArray).size := by rw [ByteArray.size_append, ByteArray.size_append, ByteArray.size_append, e1, e2, e3]; omega
  clear e1 e2 e3
  have HL := Lib.hid hL
  clear hL
  go_enter Tryd.func115, Tryd.ntmps115
  go_wp2_with fail
  rw [HL.out]
  refine (hP.out _).mono ?_
  rintro _ w1 ⟨rfl, hb⟩
  have HB := Lib.hid (hb.trans (((Below.refl _ _).alloc (Nat.le_refl _) (.cells #[.int .u64 x0, .int .u64 x1, .int .u64 x2, .int .u64 x3] 24)).mono hb.size))
  clear hb
  cases v
  all_goals
    go_wp2
    go_ret
    exact ⟨rfl, HB.out⟩
theorem PE_eq (o : Option (Nat → Bool)) : ∃ x0 x1 x2 x3 z : Int, PE o = .returned (.tuple #[.agg #[.int .u64 x0, .int .u64 x1, .int .u64 x2, .int .u64 x3], .int .i64 z]) ∧ (z == 0) = o.isSome := by
  cases o with
  | none => exact ⟨0, 0, 0, 0, 50, rfl, rfl⟩
  | some f => exact ⟨_, _, _, _, 0, rfl, rfl⟩
theorem isItem_any (a b : List UInt8) (ha : a.length ≤ 1000) (hb : b.length ≤ 1000) (w : World) :
    Calls Tryd.prog 115 #[.string (bs a), .string (bs b)] w fun e w' => e = .returned (.bool (isI a b)) ∧ Below w.heap.size w w' := by
  obtain ⟨x0, x1, x2, x3, z, h1, h2⟩ := PE_eq (ps (91 :: (a ++ 45 :: (b ++ [93]))))
  refine isItem_step (bs a) (bs b) (bs (91 :: (a ++ 45 :: (b ++ [93])))) (isI a b) x0 x1 x2 x3 z h2 w ha hb ?_ (Lib.hid fun w => ?_)
  · apply ByteArray.ext
    apply Array.toList_inj.mp
    simp [ByteArray.data_append]
  · have hl : (bs (91 :: (a ++ 45 :: (b ++ [93])))).size ≤ 140737488355328 := by
      show (91 :: (a ++ 45 :: (b ++ [93]))).length ≤ _
      simp; omega
    have := parse_any (bs (91 :: (a ++ 45 :: (b ++ [93])))) hl w
    rw [show (bs (91 :: (a ++ 45 :: (b ++ [93])))).data.toList = 91 :: (a ++ 45 :: (b ++ [93])) from by simp [bs], h1] at this
    exact this
end Go.Proofs.YtmjojahkbjlcdaaDoor
end
section
/- Package regs: the reader's small steps: what comes next. -/
namespace Go.Proofs.YtmjojahkbjlcdaaDoor
set_option linter.unusedSimpArgs false
set_option linter.unusedVariables false
set_option maxRecDepth 100000
open Go.RowKit

set_option maxHeartbeats 2000000 in
theorem written_A {rb n0 n1 n2 : Nat} {s : ByteArray} {w : World} (v : Bool) (h0 : Gat rb s n0 w) (hP : PASS rb ⟨#[92]⟩ v s n1 w) (hN : NEXT rb s n1 boom n2) :
    Calls Tryd.prog 114 #[.pointer (some ⟨rb, 0, none⟩)] w fun e w' => e = boom ∧ Gk rb s n2 w w' := by
  have c1 := h0.c1
  have z := h0.lt
  clear h0
  go_enter Tryd.func114, Tryd.ntmps114
  go_wp2_with fail
  refine hP.out.mono ?_
  rintro _ w1 ⟨rfl, hk⟩
  have hK := Lib.hid hk
  clear hk
  go_wp2_with fail
  refine (hN.out _ hK.out.2).mono ?_
  rintro _ w2 ⟨rfl, h2⟩
  have hE := Lib.hid (hK.out.trans h2)
  clear h2
  unfold boom
  go_wp2
  exact ⟨rfl, rfl, hE.out⟩
set_option maxHeartbeats 4000000 in
theorem written_B {rb n0 n1 n2 : Nat} {s : ByteArray} {w : World} (v : Bool) (c : UInt8) (hs : s.size ≤ 9223372036854775806) (l1 : n0 ≤ n2) (l2 : n2 ≤ s.size) (W : ByteArray) (hW : s.extract n0 n2 = W) (h0 : Gat rb s n0 w) (hP : PASS rb ⟨#[92]⟩ v s n1 w) (hN : NEXT rb s n1 (.returned (.int .u8 c.toNat)) n2)
    (hI : Hid (∀ w, Calls Tryd.prog 115 #[.string W, .string W] w fun e w' => e = .returned (.bool true) ∧ Below w.heap.size w w')) :
    Calls Tryd.prog 114 #[.pointer (some ⟨rb, 0, none⟩)] w fun e w' => e = .returned (.string W) ∧ Gk rb s n2 w w' := by
  have c1 := h0.c1
  have z := h0.lt
  have HW := Lib.hid hW
  clear h0 hW
  have i1 : (n0 : Int) ≤ (n2 : Int) := by omega
  have i2 : (n2 : Int) ≤ (s.size : Int) := by omega
  go_enter Tryd.func114, Tryd.ntmps114
  go_wp2_with fail
  refine hP.out.mono ?_
  rintro _ w1 ⟨rfl, hk⟩
  have hK := Lib.hid hk
  clear hk
  go_wp2_with fail
  refine (hN.out _ hK.out.2).mono ?_
  rintro _ w2 ⟨rfl, h2⟩
  have hE := Lib.hid (hK.out.trans h2)
  have d0 := h2.2.c0
  have d1 := h2.2.c1
  have z2 := h2.2.lt
  clear h2
  go_wp2_with fail
  go_quiet (fail)
  have hE2 := Lib.hid (hE.out.trans (Gk.drewN hE.out.2 nq))
  generalize w2.drewN nq = w3 at *
  go_wp2_with fail
  rw [HW.out]
  refine (hI.out _).mono ?_
  rintro _ w4 ⟨rfl, hb⟩
  have hE3 := Lib.hid (hE2.out.trans (Gk.up hE2.out.2 hb))
  clear hb
  go_wp2
  go_ret
  exact ⟨rfl, hE3.out⟩
set_option maxHeartbeats 4000000 in
theorem written_C {rb n0 n1 m : Nat} {s : ByteArray} {w : World} (v : Bool) (c : UInt8) (hs : s.size ≤ 9223372036854775806) (l1 : n0 ≤ m + 1) (l2 : m + 1 ≤ s.size) (W : ByteArray) (hW : s.extract n0 (m + 1) = W) (h0 : Gat rb s n0 w) (hP : PASS rb ⟨#[92]⟩ v s n1 w) (hN : NEXT rb s n1 (.returned (.int .u8 c.toNat)) (m + 1))
    (hI : Hid (∀ w, Calls Tryd.prog 115 #[.string W, .string W] w fun e w' => e = .returned (.bool false) ∧ Below w.heap.size w w')) :
    Calls Tryd.prog 114 #[.pointer (some ⟨rb, 0, none⟩)] w fun e w' => e = boom ∧ Gk rb s m w w' := by
  have c1 := h0.c1
  have z := h0.lt
  have HW := Lib.hid hW
  clear h0 hW
  obtain ⟨n2, hn2⟩ : ∃ n2, n2 = m + 1 := ⟨_, rfl⟩
  rw [← hn2] at HW hN
  have i1 : (n0 : Int) ≤ (n2 : Int) := by omega
  have i2 : (n2 : Int) ≤ (s.size : Int) := by omega
  have hg := Lib.hid fun w h => giveUp_any rb n2 m s w h
  have hsub : IntKind.i64.wrap ((n2 : Int) - 1) = m := by rw [IntWalk.i64_in _ (by omega)]; omega
  have i3 : (1 : Int) ≤ n2 := by omega
  have hsub2 : ((n2 : Int) - 1) = m := by omega
  have HS2 := Lib.hid hsub2
  clear hn2 l1 l2 hsub2 hsub
  go_enter Tryd.func114, Tryd.ntmps114
  go_wp2_with fail
  refine hP.out.mono ?_
  rintro _ w1 ⟨rfl, hk⟩
  have hK := Lib.hid hk
  clear hk
  go_wp2_with fail
  refine (hN.out _ hK.out.2).mono ?_
  rintro _ w2 ⟨rfl, h2⟩
  have hE := Lib.hid (hK.out.trans h2)
  have d0 := h2.2.c0
  have d1 := h2.2.c1
  have z2 := h2.2.lt
  clear h2
  go_wp2_with fail
  go_quiet (fail)
  have hE2 := Lib.hid (hE.out.trans (Gk.drewN hE.out.2 nq))
  generalize w2.drewN nq = w3 at *
  go_wp2_with fail
  rw [HW.out]
  refine (hI.out _).mono ?_
  rintro _ w4 ⟨rfl, hb⟩
  have hE3 := Lib.hid (hE2.out.trans (Gk.up hE2.out.2 hb))
  have d2 := hE3.out.2.c1
  have z3 := hE3.out.2.lt
  clear hb
  go_wp2_with fail
  rw [HS2.out]
  refine (hg.out _ hE3.out.2).mono ?_
  rintro _ w5 ⟨rfl, h5⟩
  have hE4 := Lib.hid (hE3.out.trans h5)
  clear h5
  unfold boom
  go_wp2
  exact ⟨rfl, rfl, hE4.out⟩
theorem written_any5 {rb : Nat} {s : ByteArray} {q : List UInt8} {w : World} (h : GA rb s q w) (hs : s.size ≤ 9223372036854775806) :
    Calls Tryd.prog 114 #[.pointer (some ⟨rb, 0, none⟩)] w (StepP rb s w (wtn q) fun x => .string (bs x.1)) := by
  have hp := fun v hv => pass_hid (v := v) ⟨#[92]⟩ h hs hv
  cases q with
  | nil => exact (written_A false h.2 (hp false rfl) (next_hid0 hs h.1)).mono fun e w' k => ⟨k.1, .of h.1 k.2⟩
  | cons c r =>
    by_cases hc : c = 92
    · subst hc
      have hp1 := hp true rfl
      cases r with
      | nil => exact (written_A true h.2 hp1 (next_hid0 hs h.1.tl)).mono fun e w' k => ⟨k.1, .of h.1.tl k.2⟩
      | cons d q =>
        have hn := next_hid (rb := rb) h.1.tl hs
        have hx : s.extract (s.size - (92 :: d :: q).length) (s.size - q.length) = bs [92, d] := Suf.ext (a := [92, d]) (q := q) h.1
        have hl := h.1.len
        have hit := fun v hv => (Lib.hid fun w => (by have := isItem_any [92, d] [92, d] (by simp) (by simp) w; rwa [show isI [92, d] [92, d] = v from hv] at this) : Hid (∀ w, Calls Tryd.prog 115 #[.string (bs [92, d]), .string (bs [92, d])] w fun e w' => e = .returned (.bool v) ∧ Below w.heap.size w w'))
        cases hm : mt d with
        | some x => exact (written_B true d hs (by simp; omega) (Nat.sub_le _ _) (bs [92, d]) hx h.2 hp1 hn (hit true (by rw [isI_two (.inl ⟨d, rfl, hm⟩) (.inl ⟨d, rfl, hm⟩)]; simp))).mono fun e w' k => by simp only [wtn, hm]; exact ⟨k.1, .of h.1.tl.tl k.2⟩
        | none =>
          rw [← h.1.tl.next] at hn hx
          exact (written_C true d hs (by simp at hl ⊢; omega) (by have := h.1.tl.lt; omega) (bs [92, d]) hx h.2 hp1 hn (hit false (isI_esc hm))).mono fun e w' k => by simp only [wtn, hm]; exact ⟨k.1, .of h.1.tl k.2⟩
    · have hp1 := hp false (by simp [ahl, List.contains_cons, hc])
      have hn := next_hid (rb := rb) h.1 hs
      have e0 : wtn (c :: r) = if sp c then .error (c :: r) else .ok (([c], c), r) := by
        unfold wtn; split <;> simp_all
      have hx : s.extract (s.size - (c :: r).length) (s.size - r.length) = bs [c] := Suf.ext (a := [c]) (q := r) h.1
      have hl := h.1.len
      have hit := fun v hv => (Lib.hid fun w => (by have := isItem_any [c] [c] (by simp) (by simp) w; rwa [show isI [c] [c] = v from hv] at this) : Hid (∀ w, Calls Tryd.prog 115 #[.string (bs [c]), .string (bs [c])] w fun e w' => e = .returned (.bool v) ∧ Below w.heap.size w w'))
      rw [e0]
      cases hsg : sp c with
      | false => exact (written_B false c hs (by simp; omega) (Nat.sub_le _ _) (bs [c]) hx h.2 hp1 hn (hit true (by rw [isI_two (.inr ⟨rfl, hc, hsg⟩) (.inr ⟨rfl, hc, hsg⟩)]; simp))).mono fun e w' k => by simp only [Bool.false_eq_true, if_false]; exact ⟨k.1, .of h.1.tl k.2⟩
      | true =>
        rw [← h.1.next] at hn hx
        exact (written_C false c hs (by omega) (by have := h.1.lt; omega) (bs [c]) hx h.2 hp1 hn (hit false (isI_sp hc hsg))).mono fun e w' k => by simp only [if_true]; exact ⟨k.1, .of h.1 k.2⟩
end Go.Proofs.YtmjojahkbjlcdaaDoor
end
section
/- Package regs: the reader's small steps: what comes next. -/
namespace Go.Proofs.YtmjojahkbjlcdaaDoor
set_option linter.unusedSimpArgs false
set_option linter.unusedVariables false
set_option maxRecDepth 100000
open Go.RowKit

def WR (rb : Nat) (s : ByteArray) (n : Nat) (e0 : Ending) (m : Nat) : Prop := Hid (∀ w, Gat rb s n w → Calls Tryd.prog 114 #[.pointer (some ⟨rb, 0, none⟩)] w fun e w' => e = e0 ∧ Gk rb s m w w')
def PS (rb : Nat) (B : ByteArray) (s : ByteArray) (n : Nat) (v : Bool) (m : Nat) : Prop := Hid (∀ w, Gat rb s n w → Calls Tryd.prog 66 #[.pointer (some ⟨rb, 0, none⟩), .string B] w fun e w' => e = .returned (.bool v) ∧ Gk rb s m w w')
def done0 : Ending := .returned (.tuple #[])
set_option maxHeartbeats 2000000 in
theorem item_A {rb n0 n1 : Nat} {s : ByteArray} {w : World} (h0 : Gat rb s n0 w) (hW : WR rb s n0 boom n1) :
    Calls Tryd.prog 112 #[.pointer (some ⟨rb, 0, none⟩)] w fun e w' => e = boom ∧ Gk rb s n1 w w' := by
  have H0 := Lib.hid h0
  clear h0
  go_enter Tryd.func112, Tryd.ntmps112
  go_wp2_with fail
  refine (hW.out _ H0.out).mono ?_
  rintro _ w1 ⟨rfl, hk⟩
  have hK := Lib.hid hk
  clear hk
  unfold boom
  go_wp2
  exact ⟨rfl, rfl, hK.out⟩
set_option maxHeartbeats 2000000 in
theorem item_B {rb n0 n1 n2 : Nat} {s : ByteArray} {w : World} (W1 : ByteArray) (h0 : Gat rb s n0 w) (hW : WR rb s n0 (.returned (.string W1)) n1) (hP : PS rb ⟨#[45]⟩ s n1 false n2) :
    Calls Tryd.prog 112 #[.pointer (some ⟨rb, 0, none⟩)] w fun e w' => e = done0 ∧ Gk rb s n2 w w' := by
  have H0 := Lib.hid h0
  clear h0
  go_enter Tryd.func112, Tryd.ntmps112
  go_wp2_with fail
  refine (hW.out _ H0.out).mono ?_
  rintro _ w1 ⟨rfl, hk⟩
  have hK := Lib.hid hk
  clear hk
  go_wp2_with fail
  refine (hP.out _ hK.out.2).mono ?_
  rintro _ w2 ⟨rfl, h2⟩
  have hE := Lib.hid (hK.out.trans h2)
  clear h2
  go_wp2
  go_end0
  exact ⟨rfl, hE.out⟩
set_option maxHeartbeats 2000000 in
theorem item_C {rb n0 n1 n2 n3 : Nat} {s : ByteArray} {w : World} (W1 : ByteArray) (h0 : Gat rb s n0 w) (hW : WR rb s n0 (.returned (.string W1)) n1) (hP : PS rb ⟨#[45]⟩ s n1 true n2) (hW2 : WR rb s n2 boom n3) :
    Calls Tryd.prog 112 #[.pointer (some ⟨rb, 0, none⟩)] w fun e w' => e = boom ∧ Gk rb s n3 w w' := by
  have H0 := Lib.hid h0
  clear h0
  go_enter Tryd.func112, Tryd.ntmps112
  go_wp2_with fail
  refine (hW.out _ H0.out).mono ?_
  rintro _ w1 ⟨rfl, hk⟩
  have hK := Lib.hid hk
  clear hk
  go_wp2_with fail
  refine (hP.out _ hK.out.2).mono ?_
  rintro _ w2 ⟨rfl, h2⟩
  have hE := Lib.hid (hK.out.trans h2)
  clear h2
  go_wp2_with fail
  refine (hW2.out _ hE.out.2).mono ?_
  rintro _ w3 ⟨rfl, h3⟩
  have hE3 := Lib.hid (hE.out.trans h3)
  clear h3
  unfold boom
  go_wp2
  exact ⟨rfl, rfl, hE3.out⟩
set_option maxHeartbeats 2000000 in
theorem item_D {rb n0 n1 n2 n3 : Nat} {s : ByteArray} {w : World} (W1 W2 : ByteArray) (h0 : Gat rb s n0 w) (hW : WR rb s n0 (.returned (.string W1)) n1) (hP : PS rb ⟨#[45]⟩ s n1 true n2) (hW2 : WR rb s n2 (.returned (.string W2)) n3)
    (hI : Hid (∀ w, Calls Tryd.prog 115 #[.string W1, .string W2] w fun e w' => e = .returned (.bool true) ∧ Below w.heap.size w w')) :
    Calls Tryd.prog 112 #[.pointer (some ⟨rb, 0, none⟩)] w fun e w' => e = done0 ∧ Gk rb s n3 w w' := by
  have H0 := Lib.hid h0
  clear h0
  go_enter Tryd.func112, Tryd.ntmps112
  go_wp2_with fail
  refine (hW.out _ H0.out).mono ?_
  rintro _ w1 ⟨rfl, hk⟩
  have hK := Lib.hid hk
  clear hk
  go_wp2_with fail
  refine (hP.out _ hK.out.2).mono ?_
  rintro _ w2 ⟨rfl, h2⟩
  have hE := Lib.hid (hK.out.trans h2)
  clear h2
  go_wp2_with fail
  refine (hW2.out _ hE.out.2).mono ?_
  rintro _ w3 ⟨rfl, h3⟩
  have hE3 := Lib.hid (hE.out.trans h3)
  clear h3
  go_wp2_with fail
  refine (hI.out _).mono ?_
  rintro _ w4 ⟨rfl, hb⟩
  have hE4 := Lib.hid (hE3.out.trans (Gk.up hE3.out.2 hb))
  clear hb
  go_wp2
  go_end0
  exact ⟨rfl, hE4.out⟩
set_option maxHeartbeats 2000000 in
theorem item_E {rb n0 n1 n2 m : Nat} {s : ByteArray} {w : World} (W1 W2 : ByteArray) (hm : m < 9223372036854775806) (h0 : Gat rb s n0 w) (hW : WR rb s n0 (.returned (.string W1)) n1) (hP : PS rb ⟨#[45]⟩ s n1 true n2) (hW2 : WR rb s n2 (.returned (.string W2)) (m + 1))
    (hI : Hid (∀ w, Calls Tryd.prog 115 #[.string W1, .string W2] w fun e w' => e = .returned (.bool false) ∧ Below w.heap.size w w')) :
    Calls Tryd.prog 112 #[.pointer (some ⟨rb, 0, none⟩)] w fun e w' => e = boom ∧ Gk rb s m w w' := by
  have H0 := Lib.hid h0
  clear h0
  obtain ⟨n3, hn3⟩ : ∃ n3, n3 = m + 1 := ⟨_, rfl⟩
  rw [← hn3] at hW2
  have i3 : (1 : Int) ≤ n3 := by omega
  have i4 : (n3 : Int) ≤ 9223372036854775807 := by omega
  have hg := Lib.hid fun w h => giveUp_any rb n3 m s w h
  have HS2 : Hid (((n3 : Int) - 1) = m) := Lib.hid (by omega)
  clear hn3 hm
  go_enter Tryd.func112, Tryd.ntmps112
  go_wp2_with fail
  refine (hW.out _ H0.out).mono ?_
  rintro _ w1 ⟨rfl, hk⟩
  have hK := Lib.hid hk
  clear hk
  go_wp2_with fail
  refine (hP.out _ hK.out.2).mono ?_
  rintro _ w2 ⟨rfl, h2⟩
  have hE := Lib.hid (hK.out.trans h2)
  clear h2
  go_wp2_with fail
  refine (hW2.out _ hE.out.2).mono ?_
  rintro _ w3 ⟨rfl, h3⟩
  have hE3 := Lib.hid (hE.out.trans h3)
  clear h3
  go_wp2_with fail
  refine (hI.out _).mono ?_
  rintro _ w4 ⟨rfl, hb⟩
  have hE4 := Lib.hid (hE3.out.trans (Gk.up hE3.out.2 hb))
  have d2 := hE4.out.2.c1
  have z3 := hE4.out.2.lt
  clear hb
  go_wp2_with fail
  rw [HS2.out]
  refine (hg.out _ hE4.out.2).mono ?_
  rintro _ w5 ⟨rfl, h5⟩
  have hE5 := Lib.hid (hE4.out.trans h5)
  clear h5
  unfold boom
  go_wp2
  exact ⟨rfl, rfl, hE5.out⟩
/-- An item of a class. -/
def itl (l : List UInt8) : Except (List UInt8) (Unit × List UInt8) :=
  match wtn l with
  | .error q => .error q
  | .ok ((w1, x), r) => match r with
    | [] => .ok ((), [])
    | c :: r2 => if c = 45 then (match wtn r2 with
        | .error q => .error q
        | .ok ((w2, y), t) => if x ≤ y then .ok ((), t) else .error (w2.drop (w2.length - 1) ++ t))
      else .ok ((), c :: r2)
theorem wr_hid {rb : Nat} {s : ByteArray} {q : List UInt8} (h : Suf s q) (hs : s.size ≤ 9223372036854775806) :
    match wtn q with
    | .error r => Suf s r ∧ WR rb s (s.size - q.length) boom (s.size - r.length)
    | .ok (x, r) => Suf s r ∧ WR rb s (s.size - q.length) (.returned (.string (bs x.1))) (s.size - r.length) := by
  cases hw : wtn q with
  | error r =>
    have hr : Suf s r := by
      unfold wtn at hw
      split at hw
      · cases hw; exact h
      · cases hw; exact h.tl
      · split at hw
        · cases hw
        · cases hw; exact h.tl
      · split at hw
        · cases hw; exact h
        · cases hw
    refine ⟨hr, Lib.hid fun w hg => (written_any5 (q := q) ⟨h, hg⟩ hs).mono fun e w' k => ?_⟩
    rw [hw] at k; exact ⟨k.1, k.2.gk⟩
  | ok v =>
    obtain ⟨⟨a, x⟩, r⟩ := v
    have hr := (wtn_ok hw).2
    refine ⟨Suf.drop (p := a) (by rw [← hr]; exact h), Lib.hid fun w hg => (written_any5 (q := q) ⟨h, hg⟩ hs).mono fun e w' k => ?_⟩
    rw [hw] at k; exact ⟨k.1, k.2.gk⟩
theorem ps_hid {rb : Nat} {s : ByteArray} {q : List UInt8} (B : ByteArray) (h : Suf s q) (hs : s.size ≤ 9223372036854775806) (v : Bool) (hv : ahl B.data.toList q = v) :
    PS rb B s (s.size - q.length) v (s.size - (if v then q.tail else q).length) := Lib.hid fun w hg => (pass_hid (q := q) B ⟨h, hg⟩ hs v hv).out
theorem wlen {w : List UInt8} {x : UInt8} (h : Wrt w x) : w.length = 1 ∨ w.length = 2 := by
  rcases h with ⟨d, rfl, hd⟩ | ⟨rfl, h1, h2⟩
  · exact .inr rfl
  · exact .inl rfl
theorem item_any5 {rb : Nat} {s : ByteArray} {q : List UInt8} {w : World} (h : GA rb s q w) (hs : s.size ≤ 9223372036854775806) :
    Calls Tryd.prog 112 #[.pointer (some ⟨rb, 0, none⟩)] w (StepP rb s w (itl q) fun _ => .tuple #[]) := by
  have h1 := wr_hid (rb := rb) h.1 hs
  unfold itl
  cases hw : wtn q with
  | error r =>
    rw [hw] at h1
    exact (item_A h.2 h1.2).mono fun e w' k => ⟨k.1, .of h1.1 k.2⟩
  | ok v =>
    obtain ⟨⟨a, x⟩, r⟩ := v
    rw [hw] at h1
    obtain ⟨hr, h1⟩ := h1
    have hwa := (wtn_ok hw).1
    cases r with
    | nil => exact (item_B (bs a) h.2 h1 (ps_hid ⟨#[45]⟩ hr hs false rfl)).mono fun e w' k => ⟨k.1, .of hr k.2⟩
    | cons c r2 =>
      by_cases hc : c = 45
      · subst hc
        simp only [if_true]
        have hP := ps_hid (rb := rb) ⟨#[45]⟩ hr hs true rfl
        have h2 := wr_hid (rb := rb) hr.tl hs
        cases hw2 : wtn r2 with
        | error t =>
          rw [hw2] at h2
          exact (item_C (bs a) h.2 h1 hP h2.2).mono fun e w' k => ⟨k.1, .of h2.1 k.2⟩
        | ok v2 =>
          obtain ⟨⟨b, y⟩, t⟩ := v2
          rw [hw2] at h2
          obtain ⟨ht, h2⟩ := h2
          obtain ⟨hwb, hsp⟩ := wtn_ok hw2
          have la := wlen hwa
          have lb := wlen hwb
          have hit := fun (v : Bool) (hv : isI a b = v) => (Lib.hid fun w => (by have := isItem_any a b (by omega) (by omega) w; rwa [show isI a b = v from hv] at this) : Hid (∀ w, Calls Tryd.prog 115 #[.string (bs a), .string (bs b)] w fun e w' => e = .returned (.bool v) ∧ Below w.heap.size w w'))
          by_cases hxy : x ≤ y
          · simp only [hxy, if_true]
            exact (item_D (bs a) (bs b) h.2 h1 hP h2 (hit true (by rw [isI_two hwa hwb]; simp [hxy]))).mono fun e w' k => ⟨k.1, .of ht k.2⟩
          · simp only [hxy, if_false]
            have hsuf : Suf s (b.drop (b.length - 1) ++ t) := by
              refine Suf.drop (p := b.take (b.length - 1)) ?_
              rw [← List.append_assoc, List.take_append_drop, ← hsp]; exact hr.tl
            have hpos : s.size - t.length = s.size - (b.drop (b.length - 1) ++ t).length + 1 := by
              have := hsuf.len
              simp only [List.length_append, List.length_drop] at this ⊢
              omega
            rw [hpos] at h2
            exact (item_E (bs a) (bs b) (by have := hsuf.len; simp only [List.length_append, List.length_drop] at this ⊢; omega) h.2 h1 hP h2 (hit false (by rw [isI_two hwa hwb]; simp [hxy]))).mono fun e w' k => ⟨k.1, .of hsuf k.2⟩
      · simp only [hc, if_false]
        exact (item_B (bs a) h.2 h1 (ps_hid ⟨#[45]⟩ hr hs false (by simp [ahl, hc]))).mono fun e w' k => ⟨k.1, .of hr k.2⟩
end Go.Proofs.YtmjojahkbjlcdaaDoor
end
section
/- Two boxes that a region makes and writes, beside calls that make memory: what lies in them, whichever has come up. -/
namespace Go.Proofs.YtmjojahkbjlcdaaDoor
set_option linter.unusedSimpArgs false
set_option linter.unusedVariables false
set_option maxRecDepth 100000
open Go.RowKit

/-- One box: made (p), written (p'). -/
def Box (w0 w : World) (L : List (Nat × Obj)) (T : Nat) (p p' : Bool) (x : Value) (z u : Array Value) : Prop :=
  (p' = true → p = true) ∧ (p = true → ∃ b, x = .pointer (some ⟨b, 0, none⟩) ∧ w0.heap.size ≤ b ∧ (∀ c ∈ L, c.1 ≠ b) ∧ w.heap[b]? = some (.cells (bif p' then u else z) T))
variable {w0 w w' : World} {L : List (Nat × Obj)} {T : Nat} {p p' q q' : Bool} {x y : Value} {z u v : Array Value}
theorem Box.none : Box w0 w L T false false x z u := ⟨(fun h => by cases h), (fun h => by cases h)⟩
theorem Box.up (h : Box w0 w L T p p' x z u) (hb : Below w.heap.size w w') : Box w0 w' L T p p' x z u := ⟨h.1, fun hp => by
  obtain ⟨b, e, h0, hL, hh⟩ := h.2 hp
  exact ⟨b, e, h0, hL, (hb.block _ (Array.getElem?_eq_some_iff.1 hh).1).trans hh⟩⟩
theorem Box.new (hS : Sb w0 w L) : Box w0 (w.alloc (.cells z T)) L T true false (.pointer (some ⟨w.heap.size, 0, Option.none⟩)) z u := ⟨(fun h => by cases h), fun _ =>
  ⟨w.heap.size, rfl, hS.1.size, fun c hc e => by
    have h1 := (Array.getElem?_eq_some_iff.1 (hS.2 c hc).2).1
    omega, heap_alloc_last w _⟩⟩
theorem Box.no (h : Box w0 w L T false p' x z u) : p' = false := by
  cases p'
  · rfl
  · exact absurd (h.1 rfl) (by decide)
theorem Box.lt {b : Nat} (h : Box w0 w L T true p' (.pointer (some ⟨b, 0, Option.none⟩)) z u) : b < w.heap.size := by
  obtain ⟨b', e, h0, hL, hh⟩ := h.2 rfl
  cases e
  exact (Array.getElem?_eq_some_iff.1 hh).1
theorem Box.old {b : Nat} (h : Box w0 w L T true false (.pointer (some ⟨b, 0, Option.none⟩)) z u) : w.heap[b]? = some (.cells z T) := by
  obtain ⟨b', e, h0, hL, hh⟩ := h.2 rfl
  cases e
  exact hh
theorem Box.ptr (h : Box w0 w L T true p' x z u) : ∃ b, x = .pointer (some ⟨b, 0, Option.none⟩) := by
  obtain ⟨b', e, _⟩ := h.2 rfl
  exact ⟨b', e⟩
theorem Box.put {b : Nat} (h : Box w0 w L T true p' (.pointer (some ⟨b, 0, Option.none⟩)) z u) : Box w0 (w.setRow b u) L T true true (.pointer (some ⟨b, 0, Option.none⟩)) z u := ⟨fun _ => rfl, fun _ => by
  obtain ⟨b', e, h0, hL, hh⟩ := h.2 rfl
  cases e
  exact ⟨b, rfl, h0, hL, setRow_heap w b _ u T (0, 0) hh⟩⟩
theorem Box.other {b : Nat} {u' : Array Value} (h : Box w0 w L T p p' x z u) (hne : p = true → x ≠ .pointer (some ⟨b, 0, Option.none⟩)) : Box w0 (w.setRow b u') L T p p' x z u := ⟨h.1, fun hp => by
  obtain ⟨b', e, h0, hL, hh⟩ := h.2 hp
  exact ⟨b', e, h0, hL, (setRow_other w b b' u' (fun hb => hne hp (by rw [e, hb]))).trans hh⟩⟩
theorem Box.keep {b : Nat} (h : Box w0 w L T true p' (.pointer (some ⟨b, 0, Option.none⟩)) z u) (hS : Sb w0 w L) (u' : Array Value) : Sb w0 (w.setRow b u') L := by
  obtain ⟨b', e, h0, hL, hh⟩ := h.2 rfl
  cases e
  exact (Sb.setRow (L := L) (cs' := u') ⟨hS.1, fun c hc => by
    rcases List.mem_cons.1 hc with rfl | hc
    · exact ⟨h0, hh⟩
    · exact hS.2 c hc⟩ hL).tl
theorem Box.cons {b : Nat} (h : Box w0 w L T true p' (.pointer (some ⟨b, 0, Option.none⟩)) z u) {M : List (Nat × Obj)} (hS : Sb w0 w M) : Sb w0 w ((b, .cells (bif p' then u else z) T) :: M) := by
  obtain ⟨b', e, h0, hL, hh⟩ := h.2 rfl
  cases e
  refine ⟨hS.1, fun c hc => ?_⟩
  rcases List.mem_cons.1 hc with rfl | hc
  · exact ⟨h0, hh⟩
  · exact hS.2 c hc

/-- Two boxes. -/
def Two (w0 w : World) (L : List (Nat × Obj)) (T : Nat) (p p' q q' : Bool) (x y : Value) (z u v : Array Value) : Prop :=
  Sb w0 w L ∧ Box w0 w L T p p' x z u ∧ Box w0 w L T q q' y z v ∧ (p = true → q = true → x ≠ y)
theorem Two.start (hS : Sb w0 w L) : Two w0 w L T false false false false x y z u v := ⟨hS, Box.none, Box.none, fun h => by cases h⟩
theorem Two.up (h : Two w0 w L T p p' q q' x y z u v) (hb : Below w.heap.size w w') : Two w0 w' L T p p' q q' x y z u v := ⟨h.1.up hb, h.2.1.up hb, h.2.2.1.up hb, h.2.2.2⟩
theorem Two.newL (h : Two w0 w L T false p' q q' x y z u v) : Two w0 (w.alloc (.cells z T)) L T true p' q q' (.pointer (some ⟨w.heap.size, 0, none⟩)) y z u v := by
  rw [h.2.1.no]
  have hb : Below w.heap.size w (w.alloc (.cells z T)) := (Below.refl _ _).alloc (Nat.le_refl _) _
  refine ⟨h.1.up hb, Box.new h.1, h.2.2.1.up hb, fun _ hq e => ?_⟩
  subst hq
  obtain ⟨b, hb'⟩ := h.2.2.1.ptr
  subst hb'
  have := h.2.2.1.lt
  cases e
  omega
theorem Two.newR (h : Two w0 w L T p p' false q' x y z u v) : Two w0 (w.alloc (.cells z T)) L T p p' true q' x (.pointer (some ⟨w.heap.size, 0, none⟩)) z u v := by
  rw [h.2.2.1.no]
  have hb : Below w.heap.size w (w.alloc (.cells z T)) := (Below.refl _ _).alloc (Nat.le_refl _) _
  refine ⟨h.1.up hb, h.2.1.up hb, Box.new h.1, fun hp _ e => ?_⟩
  subst hp
  obtain ⟨b, hb'⟩ := h.2.1.ptr
  subst hb'
  have := h.2.1.lt
  cases e
  omega
theorem Two.putL {b : Nat} (h : Two w0 w L T true p' q q' (.pointer (some ⟨b, 0, none⟩)) y z u v) : Two w0 (w.setRow b u) L T true true q q' (.pointer (some ⟨b, 0, none⟩)) y z u v :=
  ⟨h.2.1.keep h.1 u, h.2.1.put, h.2.2.1.other (fun hq => (h.2.2.2 rfl hq).symm), h.2.2.2⟩
theorem Two.putR {b : Nat} (h : Two w0 w L T p p' true q' x (.pointer (some ⟨b, 0, none⟩)) z u v) : Two w0 (w.setRow b v) L T p p' true true x (.pointer (some ⟨b, 0, none⟩)) z u v :=
  ⟨h.2.2.1.keep h.1 v, h.2.1.other (fun hp => h.2.2.2 hp rfl), h.2.2.1.put, h.2.2.2⟩
theorem Two.putL' {b : Nat} (hx : x = .pointer (some ⟨b, 0, none⟩)) (h : Two w0 w L T true p' q q' x y z u v) : Two w0 (w.setRow b u) L T true true q q' x y z u v := by subst hx; exact h.putL
theorem Two.putR' {b : Nat} (hy : y = .pointer (some ⟨b, 0, none⟩)) (h : Two w0 w L T p p' true q' x y z u v) : Two w0 (w.setRow b v) L T p p' true true x y z u v := by subst hy; exact h.putR
theorem Box.old' {b : Nat} (hx : x = .pointer (some ⟨b, 0, Option.none⟩)) (h : Box w0 w L T true false x z u) : w.heap[b]? = some (.cells z T) := by subst hx; exact h.old
theorem Two.done (h : Two w0 w L T true true true true x y z u v) : ∃ b c, x = .pointer (some ⟨b, 0, none⟩) ∧ y = .pointer (some ⟨c, 0, none⟩) ∧ b ≠ c ∧ Sb w0 w ((c, .cells v T) :: (b, .cells u T) :: L) ∧ (∀ k ∈ L, k.1 ≠ b) ∧ (∀ k ∈ L, k.1 ≠ c) := by
  obtain ⟨b, e, h0, hL, hh⟩ := h.2.1.2 rfl
  obtain ⟨c, e', h0', hL', hh'⟩ := h.2.2.1.2 rfl
  refine ⟨b, c, e, e', fun hbc => h.2.2.2 rfl rfl (by rw [e, e', hbc]), ⟨h.1.1, fun k hk => ?_⟩, hL, hL'⟩
  rcases List.mem_cons.1 hk with rfl | hk
  · exact ⟨h0', hh'⟩
  rcases List.mem_cons.1 hk with rfl | hk
  · exact ⟨h0, hh⟩
  · exact h.1.2 k hk
end Go.Proofs.YtmjojahkbjlcdaaDoor
end
