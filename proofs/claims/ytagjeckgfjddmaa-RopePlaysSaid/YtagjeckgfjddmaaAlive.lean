/- The chapter's examples that each statement ends with come out. -/
import Derived.Test.YtagjeckgfjddmaaOf2
namespace Go.Proofs.Ytagjeckgfjddmaa
set_option linter.unusedSimpArgs false
set_option linter.unusedVariables false
open Go.RowKit

/-- Contracts of the examples' calls. -/
def exA : ByteArray := ⟨#[97, 98, 99, 10, 100]⟩
def exB : ByteArray := ⟨#[97, 88, 89, 10, 100]⟩
theorem ex_new (w : World) : Calls Try.prog 12 #[.string ⟨#[97, 98, 99, 10, 100]⟩] w (Made (TreeOf exA) w) :=
  (new_ok exA w (by decide)).mono fun _ _ ⟨b, o, h1, h2, h3, h4⟩ => ⟨b, o, h1, h2, h3.tree (by decide), h4⟩
theorem ex_splice (b : Nat) (o : Option T) (w : World) (h : RopeAt w b o) (q : TreeOf exA o) : Calls Try.prog 26 #[ptr b, Ed.ed 1 3 ⟨#[88, 89]⟩] w (Made (TreeOf exB) w) :=
  (splice_ok b o exA 1 3 ⟨#[88, 89]⟩ w h q (by decide) (by decide) (by decide) (by decide)).mono fun _ _ ⟨b2, o2, h1, h2, h3, h4⟩ => ⟨b2, o2, h1, h2, h3.1, h4⟩
theorem ex_of (b : Nat) (o : Option T) (w : World) (h : RopeAt w b o) (q : TreeOf exA o) : Calls Try.prog 22 #[ptr b, .int .i64 4] w fun e w' => e = .returned (.tuple #[pl 1 0, .int .i64 0]) ∧ Below w.heap.size w w' := by
  have := of_made b o exA 4 w h q (by decide)
  have e1 : ofL exA.data.toList 4 = 1 := by decide
  have e2 : ofC exA.data.toList 4 = 0 := by decide
  have e3 : ofE exA.data.toList 4 = 0 := by decide
  rwa [e1, e2, e3] at this
theorem ex_lines (b : Nat) (o : Option T) (w : World) (h : RopeAt w b o) (q : TreeOf exA o) : Calls Try.prog 20 #[ptr b] w fun e w' => e = .returned (.int .i64 2) ∧ Below w.heap.size w w' := by
  have := lines_made b o exA w h q
  have e1 : ((cntN exA.data.toList : Int) + 1) = 2 := by decide
  rwa [e1] at this
theorem ex_text (b : Nat) (o : Option T) (w : World) (h : RopeAt w b o) (q : TreeOf exA o) : Calls Try.prog 30 #[ptr b] w fun e w' => e = .returned (.string ⟨#[97, 98, 99, 10, 100]⟩) ∧ Below w.heap.size w w' := text_made b o exA w h q
theorem ex_text2 (b : Nat) (o : Option T) (w : World) (h : RopeAt w b o) (q : TreeOf exB o) : Calls Try.prog 30 #[ptr b] w fun e w' => e = .returned (.string ⟨#[97, 88, 89, 10, 100]⟩) ∧ Below w.heap.size w w' := text_made b o exB w h q

set_option maxHeartbeats 2000000 in
theorem alive_any (w : World) : Calls Try.prog 13 #[] w fun e w' => e = .returned (.bool true) ∧ Below w.heap.size w w' := by
  go_enter Try.func13, Try.ntmps13
  go_wp2_with fail
  refine (ex_new _).mono ?_
  rintro _ w1 ⟨b, o, rfl, hr1, hq1, hb1⟩
  have L1 := Lib.hid hb1
  have R1 := Lib.hid hr1
  have Q1 := Lib.hid hq1
  clear hb1 hr1 hq1
  go_wp2_with fail
  refine (ex_splice b o _ R1.out Q1.out).mono ?_
  rintro _ w2 ⟨b2, o2, rfl, hr2, hq2, hb2⟩
  have L2 := Lib.hid (L1.out.trans (hb2.mono L1.out.size))
  have R1b := Lib.hid (R1.out.below hb2)
  have R2 := Lib.hid hr2
  have Q2 := Lib.hid hq2
  clear hb2 hr2 hq2 R1 L1
  go_wp2_with fail
  refine (ex_of b o _ R1b.out Q1.out).mono ?_
  rintro _ w3 ⟨rfl, hb3⟩
  have P3 := Lib.hid (PlAt.new w3 1 0)
  have hb3' := hb3.alloc hb3.size (.cells #[.int .i64 1, .int .i64 0] 34)
  have L3 := Lib.hid (L2.out.trans (hb3'.mono L2.out.size))
  have R1c := Lib.hid (R1b.out.below hb3')
  have R2c := Lib.hid (R2.out.below hb3')
  clear hb3 hb3' L2 R1b R2
  go_wp2_with fail
  refine (ex_text2 b2 o2 _ R2c.out Q2.out).mono ?_
  rintro _ w4 ⟨rfl, hb4⟩
  have L4 := Lib.hid (L3.out.trans (hb4.mono L3.out.size))
  have R1d := Lib.hid (R1c.out.below hb4)
  have P4 := Lib.hid (P3.out.below hb4)
  clear hb4 L3 R1c P3 R2c
  go_wp2_with fail
  refine (ex_text b o _ R1d.out Q1.out).mono ?_
  rintro _ w5 ⟨rfl, hb5⟩
  have L5 := Lib.hid (L4.out.trans (hb5.mono L4.out.size))
  have R1e := Lib.hid (R1d.out.below hb5)
  have P5 := P4.out.below hb5
  obtain ⟨c0, c1, -, -, cz⟩ := P5
  clear hb5 L4 R1d P4
  go_wp2_with fail
  refine (ex_lines b o _ R1e.out Q1.out).mono ?_
  rintro _ w6 ⟨rfl, hb6⟩
  go_wp2
  go_ret
  exact ⟨rfl, L5.out.trans (hb6.mono L5.out.size)⟩
end Go.Proofs.Ytagjeckgfjddmaa
