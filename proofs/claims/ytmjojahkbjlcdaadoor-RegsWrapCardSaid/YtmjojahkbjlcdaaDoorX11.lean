/- Texts of package regs, one behind the other. -/
import Derived.Test.YtmjojahkbjlcdaaDoorProg
import Derived.Test.YtmjojahkbjlcdaaDoorX3
import Derived.Test.YtmjojahkbjlcdaaDoorX5
import Derived.WalkKit
import Derived.WalkLawsBesides
import Derived.WalkSpells
import Derived.Outline
import Derived.Lib.Walk
import Derived.Lib.Hide
import Derived.RegionTactic
import Derived.LoopTactic
import Derived.Below
import Derived.IntWalk
import Derived.Deep.QuietTactic
import Derived.BigQuiet
import Derived.Test.YtmjojahkbjlcdaaDoorX8
import Derived.Test.YtmjojahkbjlcdaaDoorPs
section
/- Package regs: the reader's small steps: what comes next. -/
namespace Go.Proofs.YtmjojahkbjlcdaaDoor
set_option linter.unusedSimpArgs false
set_option linter.unusedVariables false
set_option maxRecDepth 100000
open Go.RowKit

/-- The bytes x are written so. -/
def Wrt (w : List UInt8) (x : UInt8) : Prop := (∃ d, w = [92, d] ∧ mt d = some x) ∨ (w = [x] ∧ x ≠ 92 ∧ sp x = false)
theorem Wrt.one {w : List UInt8} {x : UInt8} (h : Wrt w x) (r : List UInt8) : one (w ++ r) = some (x, r) := by
  rcases h with ⟨d, rfl, hd⟩ | ⟨rfl, h1, h2⟩
  · simp [YtmjojahkbjlcdaaDoor.one, hd]
  · simp [YtmjojahkbjlcdaaDoor.one, h1, h2]
theorem Wrt.head {w : List UInt8} {x : UInt8} (h : Wrt w x) : ∃ c t, w = c :: t ∧ c ≠ 93 ∧ c ≠ 94 ∧ c ≠ 45 := by
  rcases h with ⟨d, rfl, hd⟩ | ⟨rfl, h1, h2⟩
  · exact ⟨92, [d], rfl, by decide, by decide, by decide⟩
  · refine ⟨x, [], rfl, ?_, ?_, ?_⟩ <;> (rintro rfl; revert h2; decide)
theorem cls_open {c : UInt8} (r : List UInt8) (h : c ≠ 94) : cls (91 :: c :: r) = bd (c :: r) fun _ => false := by
  simp [cls, h]
/-- Is it an item, of two bytes that are written so? -/
def isI (a b : List UInt8) : Bool := (ps (91 :: (a ++ 45 :: (b ++ [93])))).isSome
theorem isI_two {a b : List UInt8} {x y : UInt8} (ha : Wrt a x) (hb : Wrt b y) : isI a b = decide (x ≤ y) := by
  obtain ⟨c, t, rfl, h1, h2, h3⟩ := ha.head
  have e1 := ha.one (45 :: (b ++ [93]))
  have e2 := hb.one [93]
  have ei : itm ((c :: t) ++ 45 :: (b ++ [93])) = if x ≤ y then some (x, y, [93]) else none := by
    unfold itm; rw [e1]; simp only [if_true, e2]
  unfold isI ps
  have e0 : cls (91 :: ((c :: t) ++ 45 :: (b ++ [93]))) = bd ((c :: t) ++ 45 :: (b ++ [93])) fun _ => false := cls_open _ h2
  rw [e0]
  by_cases hxy : x ≤ y
  · rw [if_pos hxy, List.cons_append] at ei
    have := bd_item c (t ++ 45 :: (b ++ [93])) (fun _ => false) h1 x y [93] ei
    rw [List.cons_append, this, bd_end]
    simp [hxy]
  · rw [if_neg hxy, List.cons_append] at ei
    have := bd_bad c (t ++ 45 :: (b ++ [93])) (fun _ => false) h1 ei
    rw [List.cons_append, this]
    simp [hxy]
theorem isI_esc {d : UInt8} (h : mt d = none) : isI [92, d] [92, d] = false := by
  unfold isI ps
  rw [show cls (91 :: ([92, d] ++ 45 :: ([92, d] ++ [93]))) = bd (92 :: d :: 45 :: 92 :: d :: [93]) fun _ => false from cls_open _ (by decide)]
  rw [bd_bad 92 _ _ (by decide) (by simp [itm, one, h])]
  rfl
theorem isI_sp {c : UInt8} (h0 : c ≠ 92) (h : sp c = true) : isI [c] [c] = false := by
  have hc : c = 91 ∨ c = 93 ∨ c = 94 ∨ c = 45 := by
    unfold sp at h
    simp only [Bool.or_eq_true, beq_iff_eq] at h
    rcases h with (((h | h) | h) | h) | h
    · exact absurd h h0
    · exact .inl h
    · exact .inr (.inl h)
    · exact .inr (.inr (.inl h))
    · exact .inr (.inr (.inr h))
  rcases hc with rfl | rfl | rfl | rfl <;> decide
/-- A byte of a class: how it is written, what it is, and what is left. -/
def wtn : List UInt8 → Except (List UInt8) ((List UInt8 × UInt8) × List UInt8)
  | [] => .error []
  | 92 :: [] => .error []
  | 92 :: d :: q => match mt d with
    | some x => .ok (([92, d], x), q)
    | none => .error (d :: q)
  | c :: q => if sp c then .error (c :: q) else .ok (([c], c), q)
theorem wtn_ok {l : List UInt8} {w : List UInt8} {x : UInt8} {q : List UInt8} (h : wtn l = .ok ((w, x), q)) : Wrt w x ∧ l = w ++ q := by
  unfold wtn at h
  split at h
  · cases h
  · cases h
  · split at h
    · cases h; exact ⟨.inl ⟨_, rfl, by assumption⟩, rfl⟩
    · cases h
  · rename_i c q' h1 h2
    split at h
    · cases h
    · rename_i hs
      cases h
      refine ⟨.inr ⟨rfl, ?_, by simpa using hs⟩, rfl⟩
      intro hc
      cases q with
      | nil => exact h1 hc rfl
      | cons d r => exact h2 d r hc rfl
theorem Suf.ext {s : ByteArray} {a q : List UInt8} (h : Suf s (a ++ q)) : s.extract (s.size - (a ++ q).length) (s.size - q.length) = bs a := by
  obtain ⟨p, hp⟩ := h
  have h1 : s.data.toList.length = s.size := by simp
  have h2 : s.size - (a ++ q).length = p.length := by rw [hp] at h1; simp only [List.length_append] at h1 ⊢; omega
  have h3 : s.size - q.length = p.length + a.length := by rw [hp] at h1; simp only [List.length_append] at h1 ⊢; omega
  rw [h2, h3]
  apply ByteArray.ext
  rw [ByteArray.data_extract]
  apply Array.toList_inj.mp
  rw [Array.toList_extract, hp, List.extract_eq_drop_take']
  show List.drop p.length (List.take (p.length + a.length) (p ++ (a ++ q))) = a
  rw [← List.append_assoc, List.take_left' (by simp), List.drop_left' rfl]

def errZ : Value := .agg #[.int .u64 0, .int .u64 0, .int .u64 0, .int .u64 0]
set_option maxHeartbeats 2000000 in
theorem isItem_step (A B L : ByteArray) (v : Bool) (x0 x1 x2 x3 z : Int) (hz : (z == 0) = v) (w : World) (hA : A.size ≤ 1000) (hB : B.size ≤ 1000) (hL : ((((⟨#[91]⟩ : ByteArray) ++ A) ++ (⟨#[45]⟩ : ByteArray)) ++ B) ++ (⟨#[93]⟩ : ByteArray) = L)
    (hP : Hid (∀ w, Calls Tryd.prog 113 #[.string L] w fun e w' => e = .returned (.tuple #[.agg #[.int .u64 x0, .int .u64 x1, .int .u64 x2, .int .u64 x3], .int .i64 z]) ∧ Below w.heap.size w w')) :
    Calls Tryd.prog 115 #[.string A, .string B] w fun e w' => e = .returned (.bool v) ∧ Below w.heap.size w w' := by
  have e1 : (⟨#[91]⟩ : ByteArray).size = 1 := rfl
  have e2 : (⟨#[45]⟩ : ByteArray).size = 1 := rfl
  have e3 : (⟨#[93]⟩ : ByteArray).size = 1 := rfl
  have k1 : ¬ 9223372036854775807 < (⟨#[91]⟩ : ByteArray).size + A.size := by rw [e1]; omega
  have k2 : ¬ 9223372036854775807 < ((⟨#[91]⟩ : ByteArray) ++ A).size + (⟨#[45]⟩ : ByteArray).size := by rw [ByteArray.size_append, e1, e2]; omega
  have k3 : ¬ 9223372036854775807 < (((⟨#[91]⟩ : ByteArray) ++ A) ++ (⟨#[45]⟩ : ByteArray)).size + B.size := by rw [ByteArray.size_append, ByteArray.size_append, e1, e2]; omega
  have k4 : ¬ 9223372036854775807 < ((((⟨#[91]⟩ : ByteArray) ++ A) ++ (⟨#[45]⟩ : ByteArray)) ++ B).size + (⟨#[93]⟩ : ByteArray).size := by rw [ByteArray.size_append, ByteArray.size_append, ByteArray.size_append, e1, e2, e3]; omega
  clear e1 e2 e3
  have HL := Lib.hid hL
  clear hL
  go_enter Tryd.func115, Tryd.ntmps115
  go_wp2_with fail
  rw [HL.out]
  refine (hP.out _).mono ?_
  rintro _ w1 ⟨rfl, hb⟩
  have HB := Lib.hid (hb.trans (((Below.refl _ _).alloc (Nat.le_refl _) (.cells #[.int .u64 x0, .int .u64 x1, .int .u64 x2, .int .u64 x3] 24)).mono hb.size))
  clear hb
  cases v
  all_goals
    go_wp2
    go_ret
    exact ⟨rfl, HB.out⟩
theorem PE_eq (o : Option (Nat → Bool)) : ∃ x0 x1 x2 x3 z : Int, PE o = .returned (.tuple #[.agg #[.int .u64 x0, .int .u64 x1, .int .u64 x2, .int .u64 x3], .int .i64 z]) ∧ (z == 0) = o.isSome := by
  cases o with
  | none => exact ⟨0, 0, 0, 0, 50, rfl, rfl⟩
  | some f => exact ⟨_, _, _, _, 0, rfl, rfl⟩
theorem isItem_any (a b : List UInt8) (ha : a.length ≤ 1000) (hb : b.length ≤ 1000) (w : World) :
    Calls Tryd.prog 115 #[.string (bs a), .string (bs b)] w fun e w' => e = .returned (.bool (isI a b)) ∧ Below w.heap.size w w' := by
  obtain ⟨x0, x1, x2, x3, z, h1, h2⟩ := PE_eq (ps (91 :: (a ++ 45 :: (b ++ [93]))))
  refine isItem_step (bs a) (bs b) (bs (91 :: (a ++ 45 :: (b ++ [93])))) (isI a b) x0 x1 x2 x3 z h2 w ha hb ?_ (Lib.hid fun w => ?_)
  · apply ByteArray.ext
    apply Array.toList_inj.mp
    simp [ByteArray.data_append]
  · have hl : (bs (91 :: (a ++ 45 :: (b ++ [93])))).size ≤ 140737488355328 := by
      show (91 :: (a ++ 45 :: (b ++ [93]))).length ≤ _
      simp; omega
    have := parse_any (bs (91 :: (a ++ 45 :: (b ++ [93])))) hl w
    rw [show (bs (91 :: (a ++ 45 :: (b ++ [93])))).data.toList = 91 :: (a ++ 45 :: (b ++ [93])) from by simp [bs], h1] at this
    exact this
end Go.Proofs.YtmjojahkbjlcdaaDoor
end
section
/- Package regs: the reader's small steps: what comes next. -/
namespace Go.Proofs.YtmjojahkbjlcdaaDoor
set_option linter.unusedSimpArgs false
set_option linter.unusedVariables false
set_option maxRecDepth 100000
open Go.RowKit

set_option maxHeartbeats 2000000 in
theorem written_A {rb n0 n1 n2 : Nat} {s : ByteArray} {w : World} (v : Bool) (h0 : Gat rb s n0 w) (hP : PASS rb ⟨#[92]⟩ v s n1 w) (hN : NEXT rb s n1 boom n2) :
    Calls Tryd.prog 114 #[.pointer (some ⟨rb, 0, none⟩)] w fun e w' => e = boom ∧ Gk rb s n2 w w' := by
  have c1 := h0.c1
  have z := h0.lt
  clear h0
  go_enter Tryd.func114, Tryd.ntmps114
  go_wp2_with fail
  refine hP.out.mono ?_
  rintro _ w1 ⟨rfl, hk⟩
  have hK := Lib.hid hk
  clear hk
  go_wp2_with fail
  refine (hN.out _ hK.out.2).mono ?_
  rintro _ w2 ⟨rfl, h2⟩
  have hE := Lib.hid (hK.out.trans h2)
  clear h2
  unfold boom
  go_wp2
  exact ⟨rfl, rfl, hE.out⟩
set_option maxHeartbeats 4000000 in
theorem written_B {rb n0 n1 n2 : Nat} {s : ByteArray} {w : World} (v : Bool) (c : UInt8) (hs : s.size ≤ 9223372036854775806) (l1 : n0 ≤ n2) (l2 : n2 ≤ s.size) (W : ByteArray) (hW : s.extract n0 n2 = W) (h0 : Gat rb s n0 w) (hP : PASS rb ⟨#[92]⟩ v s n1 w) (hN : NEXT rb s n1 (.returned (.int .u8 c.toNat)) n2)
    (hI : Hid (∀ w, Calls Tryd.prog 115 #[.string W, .string W] w fun e w' => e = .returned (.bool true) ∧ Below w.heap.size w w')) :
    Calls Tryd.prog 114 #[.pointer (some ⟨rb, 0, none⟩)] w fun e w' => e = .returned (.string W) ∧ Gk rb s n2 w w' := by
  have c1 := h0.c1
  have z := h0.lt
  have HW := Lib.hid hW
  clear h0 hW
  have i1 : (n0 : Int) ≤ (n2 : Int) := by omega
  have i2 : (n2 : Int) ≤ (s.size : Int) := by omega
  go_enter Tryd.func114, Tryd.ntmps114
  go_wp2_with fail
  refine hP.out.mono ?_
  rintro _ w1 ⟨rfl, hk⟩
  have hK := Lib.hid hk
  clear hk
  go_wp2_with fail
  refine (hN.out _ hK.out.2).mono ?_
  rintro _ w2 ⟨rfl, h2⟩
  have hE := Lib.hid (hK.out.trans h2)
  have d0 := h2.2.c0
  have d1 := h2.2.c1
  have z2 := h2.2.lt
  clear h2
  go_wp2_with fail
  go_quiet (fail)
  have hE2 := Lib.hid (hE.out.trans (Gk.drewN hE.out.2 nq))
  generalize w2.drewN nq = w3 at *
  go_wp2_with fail
  rw [HW.out]
  refine (hI.out _).mono ?_
  rintro _ w4 ⟨rfl, hb⟩
  have hE3 := Lib.hid (hE2.out.trans (Gk.up hE2.out.2 hb))
  clear hb
  go_wp2
  go_ret
  exact ⟨rfl, hE3.out⟩
set_option maxHeartbeats 4000000 in
theorem written_C {rb n0 n1 m : Nat} {s : ByteArray} {w : World} (v : Bool) (c : UInt8) (hs : s.size ≤ 9223372036854775806) (l1 : n0 ≤ m + 1) (l2 : m + 1 ≤ s.size) (W : ByteArray) (hW : s.extract n0 (m + 1) = W) (h0 : Gat rb s n0 w) (hP : PASS rb ⟨#[92]⟩ v s n1 w) (hN : NEXT rb s n1 (.returned (.int .u8 c.toNat)) (m + 1))
    (hI : Hid (∀ w, Calls Tryd.prog 115 #[.string W, .string W] w fun e w' => e = .returned (.bool false) ∧ Below w.heap.size w w')) :
    Calls Tryd.prog 114 #[.pointer (some ⟨rb, 0, none⟩)] w fun e w' => e = boom ∧ Gk rb s m w w' := by
  have c1 := h0.c1
  have z := h0.lt
  have HW := Lib.hid hW
  clear h0 hW
  obtain ⟨n2, hn2⟩ : ∃ n2, n2 = m + 1 := ⟨_, rfl⟩
  rw [← hn2] at HW hN
  have i1 : (n0 : Int) ≤ (n2 : Int) := by omega
  have i2 : (n2 : Int) ≤ (s.size : Int) := by omega
  have hg := Lib.hid fun w h => giveUp_any rb n2 m s w h
  have hsub : IntKind.i64.wrap ((n2 : Int) - 1) = m := by rw [IntWalk.i64_in _ (by omega)]; omega
  have i3 : (1 : Int) ≤ n2 := by omega
  have hsub2 : ((n2 : Int) - 1) = m := by omega
  have HS2 := Lib.hid hsub2
  clear hn2 l1 l2 hsub2 hsub
  go_enter Tryd.func114, Tryd.ntmps114
  go_wp2_with fail
  refine hP.out.mono ?_
  rintro _ w1 ⟨rfl, hk⟩
  have hK := Lib.hid hk
  clear hk
  go_wp2_with fail
  refine (hN.out _ hK.out.2).mono ?_
  rintro _ w2 ⟨rfl, h2⟩
  have hE := Lib.hid (hK.out.trans h2)
  have d0 := h2.2.c0
  have d1 := h2.2.c1
  have z2 := h2.2.lt
  clear h2
  go_wp2_with fail
  go_quiet (fail)
  have hE2 := Lib.hid (hE.out.trans (Gk.drewN hE.out.2 nq))
  generalize w2.drewN nq = w3 at *
  go_wp2_with fail
  rw [HW.out]
  refine (hI.out _).mono ?_
  rintro _ w4 ⟨rfl, hb⟩
  have hE3 := Lib.hid (hE2.out.trans (Gk.up hE2.out.2 hb))
  have d2 := hE3.out.2.c1
  have z3 := hE3.out.2.lt
  clear hb
  go_wp2_with fail
  rw [HS2.out]
  refine (hg.out _ hE3.out.2).mono ?_
  rintro _ w5 ⟨rfl, h5⟩
  have hE4 := Lib.hid (hE3.out.trans h5)
  clear h5
  unfold boom
  go_wp2
  exact ⟨rfl, rfl, hE4.out⟩
theorem written_any5 {rb : Nat} {s : ByteArray} {q : List UInt8} {w : World} (h : GA rb s q w) (hs : s.size ≤ 9223372036854775806) :
    Calls Tryd.prog 114 #[.pointer (some ⟨rb, 0, none⟩)] w (StepP rb s w (wtn q) fun x => .string (bs x.1)) := by
  have hp := fun v hv => pass_hid (v := v) ⟨#[92]⟩ h hs hv
  cases q with
  | nil => exact (written_A false h.2 (hp false rfl) (next_hid0 hs h.1)).mono fun e w' k => ⟨k.1, .of h.1 k.2⟩
  | cons c r =>
    by_cases hc : c = 92
    · subst hc
      have hp1 := hp true rfl
      cases r with
      | nil => exact (written_A true h.2 hp1 (next_hid0 hs h.1.tl)).mono fun e w' k => ⟨k.1, .of h.1.tl k.2⟩
      | cons d q =>
        have hn := next_hid (rb := rb) h.1.tl hs
        have hx : s.extract (s.size - (92 :: d :: q).length) (s.size - q.length) = bs [92, d] := Suf.ext (a := [92, d]) (q := q) h.1
        have hl := h.1.len
        have hit := fun v hv => (Lib.hid fun w => (by have := isItem_any [92, d] [92, d] (by simp) (by simp) w; rwa [show isI [92, d] [92, d] = v from hv] at this) : Hid (∀ w, Calls Tryd.prog 115 #[.string (bs [92, d]), .string (bs [92, d])] w fun e w' => e = .returned (.bool v) ∧ Below w.heap.size w w'))
        cases hm : mt d with
        | some x => exact (written_B true d hs (by simp; omega) (Nat.sub_le _ _) (bs [92, d]) hx h.2 hp1 hn (hit true (by rw [isI_two (.inl ⟨d, rfl, hm⟩) (.inl ⟨d, rfl, hm⟩)]; simp))).mono fun e w' k => by simp only [wtn, hm]; exact ⟨k.1, .of h.1.tl.tl k.2⟩
        | none =>
          rw [← h.1.tl.next] at hn hx
          exact (written_C true d hs (by simp at hl ⊢; omega) (by have := h.1.tl.lt; omega) (bs [92, d]) hx h.2 hp1 hn (hit false (isI_esc hm))).mono fun e w' k => by simp only [wtn, hm]; exact ⟨k.1, .of h.1.tl k.2⟩
    · have hp1 := hp false (by simp [ahl, List.contains_cons, hc])
      have hn := next_hid (rb := rb) h.1 hs
      have e0 : wtn (c :: r) = if sp c then .error (c :: r) else .ok (([c], c), r) := by
        unfold wtn; split <;> simp_all
      have hx : s.extract (s.size - (c :: r).length) (s.size - r.length) = bs [c] := Suf.ext (a := [c]) (q := r) h.1
      have hl := h.1.len
      have hit := fun v hv => (Lib.hid fun w => (by have := isItem_any [c] [c] (by simp) (by simp) w; rwa [show isI [c] [c] = v from hv] at this) : Hid (∀ w, Calls Tryd.prog 115 #[.string (bs [c]), .string (bs [c])] w fun e w' => e = .returned (.bool v) ∧ Below w.heap.size w w'))
      rw [e0]
      cases hsg : sp c with
      | false => exact (written_B false c hs (by simp; omega) (Nat.sub_le _ _) (bs [c]) hx h.2 hp1 hn (hit true (by rw [isI_two (.inr ⟨rfl, hc, hsg⟩) (.inr ⟨rfl, hc, hsg⟩)]; simp))).mono fun e w' k => by simp only [Bool.false_eq_true, if_false]; exact ⟨k.1, .of h.1.tl k.2⟩
      | true =>
        rw [← h.1.next] at hn hx
        exact (written_C false c hs (by omega) (by have := h.1.lt; omega) (bs [c]) hx h.2 hp1 hn (hit false (isI_sp hc hsg))).mono fun e w' k => by simp only [if_true]; exact ⟨k.1, .of h.1 k.2⟩
end Go.Proofs.YtmjojahkbjlcdaaDoor
end
