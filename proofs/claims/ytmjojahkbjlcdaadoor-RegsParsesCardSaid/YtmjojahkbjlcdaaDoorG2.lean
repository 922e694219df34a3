/- Package regs: the reader's small steps: what comes next. -/
import Derived.Test.YtmjojahkbjlcdaaDoorProg
import Derived.Test.YtmjojahkbjlcdaaDoorY3
import Derived.Test.YtmjojahkbjlcdaaDoorY4
import Derived.WalkKit
import Derived.WalkLawsBesides
import Derived.WalkSpells
import Derived.Outline
import Derived.Lib.Walk
import Derived.Lib.Hide
import Derived.RegionTactic
import Derived.LoopTactic
import Derived.Below
import Derived.IntWalk
import Derived.Deep.QuietTactic
import Derived.BigQuiet
import Derived.Deep.Light
namespace Go.Proofs.YtmjojahkbjlcdaaDoor
set_option linter.unusedSimpArgs false
set_option linter.unusedVariables false
set_option maxRecDepth 100000
open Go.RowKit

set_option maxHeartbeats 2000000 in
theorem ahead_end (rb n : Nat) (s B : ByteArray) (w : World) (h : Hid (Gat rb s n w)) (hd : Hid (decide (n < s.size) = false)) :
    Calls Tryd.prog 83 #[.pointer (some ⟨rb, 0, none⟩), .string B] w fun e w' => e = .returned (.bool false) ∧ Gk rb s n w w' := by
  go_enter Tryd.func83, Tryd.ntmps83
  go_wp2_with fail
  refine wp_region_owed (fun l act w1 => ∃ X : Nat → Value, act = ⟨(List.toArray (.pointer (some ⟨rb, 0, none⟩) :: .string B :: undef :: undef :: X 24 :: X 0 :: X 1 :: X 2 :: X 3 :: X 4 :: X 5 :: X 6 :: X 7 :: X 8 :: X 9 :: X 10 :: X 11 :: X 12 :: X 13 :: X 14 :: X 15 :: X 16 :: X 17 :: X 18 :: X 19 :: X 20 :: X 21 :: X 22 :: X 23 :: [])), []⟩ ∧ (∀ i, l i = true → ([0, 1, 2, 3, 4, 5, 6, 7, 8, 9, 10, 11, 12, 13, 14, 15, 16, 17, 18, 19, 20, 21, 22, 23, 24] : List Nat).contains i = true → X i = (fun i => ([.pointer (some ⟨rb, 0, none⟩), .pointer (some ⟨rb, 0, none⟩), .pointer (some ⟨rb, 1, none⟩), .int .i64 n, .pointer (some ⟨rb, 0, none⟩), .pointer (some ⟨rb, 0, none⟩), .pointer (some ⟨rb, 0, none⟩), .string s, .int .i64 s.size, .bool false, .bool false, undef, undef, undef, undef, undef, undef, undef, undef, undef, undef, undef, undef, .bool false, .bool false] : List Value).getD i undef) i) ∧ Gk rb s n w w1) (by kernel_rfl) (by kernel_rfl) ⟨(fun i => ([undef, undef, undef, undef, undef, undef, undef, undef, undef, undef, undef, undef, undef, undef, undef, undef, undef, undef, undef, undef, undef, undef, undef, undef, .bool false] : List Value).getD i undef), rfl, (fun i h => by cases h), Gk.drewN h.out 1⟩ ?strb ?finrb
  case strb =>
    go_light
    refine Owed.next (n := 0) (o := ?orb0) ?horb0 ?hrb0 ?hsrb0
    case horb0 => rfl
    case hrb0 =>
      intro l act w1 hw hl hI K hK
      obtain ⟨X, rfl, hX, hT⟩ := hI
      have HX := Lib.hid (packsM 0 hX [] (fun _ h => nomatch h))
      clear hX
      rw [if_pos (by rfl)]
      go_wp2_with fail
      exact hK.out _ _ ⟨fun j => bif (0 :: []).contains j then (fun i => ([.pointer (some ⟨rb, 0, none⟩), .pointer (some ⟨rb, 0, none⟩), .pointer (some ⟨rb, 1, none⟩), .int .i64 n, .pointer (some ⟨rb, 0, none⟩), .pointer (some ⟨rb, 0, none⟩), .pointer (some ⟨rb, 0, none⟩), .string s, .int .i64 s.size, .bool false, .bool false, undef, undef, undef, undef, undef, undef, undef, undef, undef, undef, undef, undef, .bool false, .bool false] : List Value).getD i undef) j else X j, rfl, HX.out, hT⟩
    refine Owed.next (n := 1) (o := ?orb1) ?horb1 ?hrb1 ?hsrb1
    case horb1 => rfl
    case hrb1 =>
      intro l act w1 hw hl hI K hK
      obtain ⟨X, rfl, hX, hT⟩ := hI
      have h0 : X 0 = .pointer (some ⟨rb, 0, none⟩) := hX 0 (hw 0 (by kernel_rfl)) (by kernel_rfl)
      have HX := Lib.hid (packsM 1 hX [0] (List.forall_mem_cons.2 ⟨hw 0 (by kernel_rfl), (fun _ h => nomatch h)⟩))
      clear hX
      have z := hT.2.lt
      rw [h0]
      clear h0
      rw [if_pos (by rfl)]
      go_wp2_with fail
      exact hK.out _ _ ⟨fun j => bif (1 :: [0]).contains j then (fun i => ([.pointer (some ⟨rb, 0, none⟩), .pointer (some ⟨rb, 0, none⟩), .pointer (some ⟨rb, 1, none⟩), .int .i64 n, .pointer (some ⟨rb, 0, none⟩), .pointer (some ⟨rb, 0, none⟩), .pointer (some ⟨rb, 0, none⟩), .string s, .int .i64 s.size, .bool false, .bool false, undef, undef, undef, undef, undef, undef, undef, undef, undef, undef, undef, undef, .bool false, .bool false] : List Value).getD i undef) j else X j, rfl, HX.out, hT⟩
    refine Owed.next (n := 2) (o := ?orb2) ?horb2 ?hrb2 ?hsrb2
    case horb2 => rfl
    case hrb2 =>
      intro l act w1 hw hl hI K hK
      obtain ⟨X, rfl, hX, hT⟩ := hI
      have h1 : X 1 = .pointer (some ⟨rb, 0, none⟩) := hX 1 (hw 1 (by kernel_rfl)) (by kernel_rfl)
      have HX := Lib.hid (packsM 2 hX [1] (List.forall_mem_cons.2 ⟨hw 1 (by kernel_rfl), (fun _ h => nomatch h)⟩))
      clear hX
      rw [h1]
      clear h1
      rw [if_pos (by rfl)]
      go_wp2_with fail
      exact hK.out _ _ ⟨fun j => bif (2 :: [1]).contains j then (fun i => ([.pointer (some ⟨rb, 0, none⟩), .pointer (some ⟨rb, 0, none⟩), .pointer (some ⟨rb, 1, none⟩), .int .i64 n, .pointer (some ⟨rb, 0, none⟩), .pointer (some ⟨rb, 0, none⟩), .pointer (some ⟨rb, 0, none⟩), .string s, .int .i64 s.size, .bool false, .bool false, undef, undef, undef, undef, undef, undef, undef, undef, undef, undef, undef, undef, .bool false, .bool false] : List Value).getD i undef) j else X j, rfl, HX.out, hT⟩
    refine Owed.next (n := 3) (o := ?orb3) ?horb3 ?hrb3 ?hsrb3
    case horb3 => rfl
    case hrb3 =>
      intro l act w1 hw hl hI K hK
      obtain ⟨X, rfl, hX, hT⟩ := hI
      have h2 : X 2 = .pointer (some ⟨rb, 1, none⟩) := hX 2 (hw 2 (by kernel_rfl)) (by kernel_rfl)
      have HX := Lib.hid (packsM 3 hX [2] (List.forall_mem_cons.2 ⟨hw 2 (by kernel_rfl), (fun _ h => nomatch h)⟩))
      clear hX
      have c1 := hT.2.c1
      rw [h2]
      clear h2
      rw [if_pos (by rfl)]
      go_wp2_with fail
      exact hK.out _ _ ⟨fun j => bif (3 :: [2]).contains j then (fun i => ([.pointer (some ⟨rb, 0, none⟩), .pointer (some ⟨rb, 0, none⟩), .pointer (some ⟨rb, 1, none⟩), .int .i64 n, .pointer (some ⟨rb, 0, none⟩), .pointer (some ⟨rb, 0, none⟩), .pointer (some ⟨rb, 0, none⟩), .string s, .int .i64 s.size, .bool false, .bool false, undef, undef, undef, undef, undef, undef, undef, undef, undef, undef, undef, undef, .bool false, .bool false] : List Value).getD i undef) j else X j, rfl, HX.out, hT⟩
    refine Owed.next (n := 4) (o := ?orb4) ?horb4 ?hrb4 ?hsrb4
    case horb4 => rfl
    case hrb4 =>
      intro l act w1 hw hl hI K hK
      obtain ⟨X, rfl, hX, hT⟩ := hI
      have HX := Lib.hid (packsM 4 hX [] (fun _ h => nomatch h))
      clear hX
      rw [if_pos (by rfl)]
      go_wp2_with fail
      exact hK.out _ _ ⟨fun j => bif (4 :: []).contains j then (fun i => ([.pointer (some ⟨rb, 0, none⟩), .pointer (some ⟨rb, 0, none⟩), .pointer (some ⟨rb, 1, none⟩), .int .i64 n, .pointer (some ⟨rb, 0, none⟩), .pointer (some ⟨rb, 0, none⟩), .pointer (some ⟨rb, 0, none⟩), .string s, .int .i64 s.size, .bool false, .bool false, undef, undef, undef, undef, undef, undef, undef, undef, undef, undef, undef, undef, .bool false, .bool false] : List Value).getD i undef) j else X j, rfl, HX.out, hT⟩
    refine Owed.next (n := 5) (o := ?orb5) ?horb5 ?hrb5 ?hsrb5
    case horb5 => rfl
    case hrb5 =>
      intro l act w1 hw hl hI K hK
      obtain ⟨X, rfl, hX, hT⟩ := hI
      have h4 : X 4 = .pointer (some ⟨rb, 0, none⟩) := hX 4 (hw 4 (by kernel_rfl)) (by kernel_rfl)
      have HX := Lib.hid (packsM 5 hX [4] (List.forall_mem_cons.2 ⟨hw 4 (by kernel_rfl), (fun _ h => nomatch h)⟩))
      clear hX
      have z := hT.2.lt
      rw [h4]
      clear h4
      rw [if_pos (by rfl)]
      go_wp2_with fail
      exact hK.out _ _ ⟨fun j => bif (5 :: [4]).contains j then (fun i => ([.pointer (some ⟨rb, 0, none⟩), .pointer (some ⟨rb, 0, none⟩), .pointer (some ⟨rb, 1, none⟩), .int .i64 n, .pointer (some ⟨rb, 0, none⟩), .pointer (some ⟨rb, 0, none⟩), .pointer (some ⟨rb, 0, none⟩), .string s, .int .i64 s.size, .bool false, .bool false, undef, undef, undef, undef, undef, undef, undef, undef, undef, undef, undef, undef, .bool false, .bool false] : List Value).getD i undef) j else X j, rfl, HX.out, hT⟩
    refine Owed.next (n := 6) (o := ?orb6) ?horb6 ?hrb6 ?hsrb6
    case horb6 => rfl
    case hrb6 =>
      intro l act w1 hw hl hI K hK
      obtain ⟨X, rfl, hX, hT⟩ := hI
      have h5 : X 5 = .pointer (some ⟨rb, 0, none⟩) := hX 5 (hw 5 (by kernel_rfl)) (by kernel_rfl)
      have HX := Lib.hid (packsM 6 hX [5] (List.forall_mem_cons.2 ⟨hw 5 (by kernel_rfl), (fun _ h => nomatch h)⟩))
      clear hX
      rw [h5]
      clear h5
      rw [if_pos (by rfl)]
      go_wp2_with fail
      exact hK.out _ _ ⟨fun j => bif (6 :: [5]).contains j then (fun i => ([.pointer (some ⟨rb, 0, none⟩), .pointer (some ⟨rb, 0, none⟩), .pointer (some ⟨rb, 1, none⟩), .int .i64 n, .pointer (some ⟨rb, 0, none⟩), .pointer (some ⟨rb, 0, none⟩), .pointer (some ⟨rb, 0, none⟩), .string s, .int .i64 s.size, .bool false, .bool false, undef, undef, undef, undef, undef, undef, undef, undef, undef, undef, undef, undef, .bool false, .bool false] : List Value).getD i undef) j else X j, rfl, HX.out, hT⟩
    refine Owed.next (n := 7) (o := ?orb7) ?horb7 ?hrb7 ?hsrb7
    case horb7 => rfl
    case hrb7 =>
      intro l act w1 hw hl hI K hK
      obtain ⟨X, rfl, hX, hT⟩ := hI
      have h6 : X 6 = .pointer (some ⟨rb, 0, none⟩) := hX 6 (hw 6 (by kernel_rfl)) (by kernel_rfl)
      have HX := Lib.hid (packsM 7 hX [6] (List.forall_mem_cons.2 ⟨hw 6 (by kernel_rfl), (fun _ h => nomatch h)⟩))
      clear hX
      have c0 := hT.2.c0
      rw [h6]
      clear h6
      rw [if_pos (by rfl)]
      go_wp2_with fail
      exact hK.out _ _ ⟨fun j => bif (7 :: [6]).contains j then (fun i => ([.pointer (some ⟨rb, 0, none⟩), .pointer (some ⟨rb, 0, none⟩), .pointer (some ⟨rb, 1, none⟩), .int .i64 n, .pointer (some ⟨rb, 0, none⟩), .pointer (some ⟨rb, 0, none⟩), .pointer (some ⟨rb, 0, none⟩), .string s, .int .i64 s.size, .bool false, .bool false, undef, undef, undef, undef, undef, undef, undef, undef, undef, undef, undef, undef, .bool false, .bool false] : List Value).getD i undef) j else X j, rfl, HX.out, hT⟩
    refine Owed.next (n := 8) (o := ?orb8) ?horb8 ?hrb8 ?hsrb8
    case horb8 => rfl
    case hrb8 =>
      intro l act w1 hw hl hI K hK
      obtain ⟨X, rfl, hX, hT⟩ := hI
      have h7 : X 7 = .string s := hX 7 (hw 7 (by kernel_rfl)) (by kernel_rfl)
      have HX := Lib.hid (packsM 8 hX [7] (List.forall_mem_cons.2 ⟨hw 7 (by kernel_rfl), (fun _ h => nomatch h)⟩))
      clear hX
      rw [h7]
      clear h7
      rw [if_pos (by rfl)]
      go_wp2_with fail
      exact hK.out _ _ ⟨fun j => bif (8 :: [7]).contains j then (fun i => ([.pointer (some ⟨rb, 0, none⟩), .pointer (some ⟨rb, 0, none⟩), .pointer (some ⟨rb, 1, none⟩), .int .i64 n, .pointer (some ⟨rb, 0, none⟩), .pointer (some ⟨rb, 0, none⟩), .pointer (some ⟨rb, 0, none⟩), .string s, .int .i64 s.size, .bool false, .bool false, undef, undef, undef, undef, undef, undef, undef, undef, undef, undef, undef, undef, .bool false, .bool false] : List Value).getD i undef) j else X j, rfl, HX.out, hT⟩
    refine Owed.next (n := 9) (o := ?orb9) ?horb9 ?hrb9 ?hsrb9
    case horb9 => rfl
    case hrb9 =>
      intro l act w1 hw hl hI K hK
      obtain ⟨X, rfl, hX, hT⟩ := hI
      have h3 : X 3 = .int .i64 n := hX 3 (hw 3 (by kernel_rfl)) (by kernel_rfl)
      have h8 : X 8 = .int .i64 s.size := hX 8 (hw 8 (by kernel_rfl)) (by kernel_rfl)
      have HX := Lib.hid (packsM 9 hX [3, 8] (List.forall_mem_cons.2 ⟨hw 3 (by kernel_rfl), (List.forall_mem_cons.2 ⟨hw 8 (by kernel_rfl), (fun _ h => nomatch h)⟩)⟩))
      clear hX
      have hd := hd.out
      rw [h3, h8]
      clear h3 h8
      rw [if_pos (by rfl)]
      go_wp2_with fail
      exact hK.out _ _ ⟨fun j => bif (9 :: [3, 8]).contains j then (fun i => ([.pointer (some ⟨rb, 0, none⟩), .pointer (some ⟨rb, 0, none⟩), .pointer (some ⟨rb, 1, none⟩), .int .i64 n, .pointer (some ⟨rb, 0, none⟩), .pointer (some ⟨rb, 0, none⟩), .pointer (some ⟨rb, 0, none⟩), .string s, .int .i64 s.size, .bool false, .bool false, undef, undef, undef, undef, undef, undef, undef, undef, undef, undef, undef, undef, .bool false, .bool false] : List Value).getD i undef) j else X j, rfl, HX.out, hT⟩
    refine Owed.next (n := 10) (o := ?orb10) ?horb10 ?hrb10 ?hsrb10
    case horb10 => rfl
    case hrb10 =>
      intro l act w1 hw hl hI K hK
      obtain ⟨X, rfl, hX, hT⟩ := hI
      have h9 : X 9 = .bool false := hX 9 (hw 9 (by kernel_rfl)) (by kernel_rfl)
      have HX := Lib.hid (packsM 10 hX [9] (List.forall_mem_cons.2 ⟨hw 9 (by kernel_rfl), (fun _ h => nomatch h)⟩))
      clear hX
      rw [h9]
      clear h9
      rw [if_pos (by rfl)]
      go_wp2_with fail
      exact hK.out _ _ ⟨fun j => bif (10 :: [9]).contains j then (fun i => ([.pointer (some ⟨rb, 0, none⟩), .pointer (some ⟨rb, 0, none⟩), .pointer (some ⟨rb, 1, none⟩), .int .i64 n, .pointer (some ⟨rb, 0, none⟩), .pointer (some ⟨rb, 0, none⟩), .pointer (some ⟨rb, 0, none⟩), .string s, .int .i64 s.size, .bool false, .bool false, undef, undef, undef, undef, undef, undef, undef, undef, undef, undef, undef, undef, .bool false, .bool false] : List Value).getD i undef) j else X j, rfl, HX.out, hT⟩
    refine Owed.next (n := 11) (o := ?orb11) ?horb11 ?hrb11 ?hsrb11
    case horb11 => rfl
    case hrb11 =>
      intro l act w1 hw hl hI K hK
      obtain ⟨X, rfl, hX, hT⟩ := hI
      have h10 : X 10 = .bool false := hX 10 (hw 10 (by kernel_rfl)) (by kernel_rfl)
      have HX := Lib.hid (packsM 11 hX [10] (List.forall_mem_cons.2 ⟨hw 10 (by kernel_rfl), (fun _ h => nomatch h)⟩))
      clear hX
      rw [h10]
      clear h10
      rw [if_neg (by exact Bool.false_ne_true)]
      exact hK.out _ _ ⟨fun j => bif (11 :: [10]).contains j then (fun i => ([.pointer (some ⟨rb, 0, none⟩), .pointer (some ⟨rb, 0, none⟩), .pointer (some ⟨rb, 1, none⟩), .int .i64 n, .pointer (some ⟨rb, 0, none⟩), .pointer (some ⟨rb, 0, none⟩), .pointer (some ⟨rb, 0, none⟩), .string s, .int .i64 s.size, .bool false, .bool false, undef, undef, undef, undef, undef, undef, undef, undef, undef, undef, undef, undef, .bool false, .bool false] : List Value).getD i undef) j else X j, rfl, HX.out, hT⟩
    refine Owed.next (n := 12) (o := ?orb12) ?horb12 ?hrb12 ?hsrb12
    case horb12 => rfl
    case hrb12 =>
      intro l act w1 hw hl hI K hK
      obtain ⟨X, rfl, hX, hT⟩ := hI
      have h10 : X 10 = .bool false := hX 10 (hw 10 (by kernel_rfl)) (by kernel_rfl)
      have HX := Lib.hid (packsM 12 hX [10] (List.forall_mem_cons.2 ⟨hw 10 (by kernel_rfl), (fun _ h => nomatch h)⟩))
      clear hX
      rw [h10]
      clear h10
      rw [if_neg (by exact Bool.false_ne_true)]
      exact hK.out _ _ ⟨fun j => bif (12 :: [10]).contains j then (fun i => ([.pointer (some ⟨rb, 0, none⟩), .pointer (some ⟨rb, 0, none⟩), .pointer (some ⟨rb, 1, none⟩), .int .i64 n, .pointer (some ⟨rb, 0, none⟩), .pointer (some ⟨rb, 0, none⟩), .pointer (some ⟨rb, 0, none⟩), .string s, .int .i64 s.size, .bool false, .bool false, undef, undef, undef, undef, undef, undef, undef, undef, undef, undef, undef, undef, .bool false, .bool false] : List Value).getD i undef) j else X j, rfl, HX.out, hT⟩
    refine Owed.next (n := 13) (o := ?orb13) ?horb13 ?hrb13 ?hsrb13
    case horb13 => rfl
    case hrb13 =>
      intro l act w1 hw hl hI K hK
      obtain ⟨X, rfl, hX, hT⟩ := hI
      have h10 : X 10 = .bool false := hX 10 (hw 10 (by kernel_rfl)) (by kernel_rfl)
      have HX := Lib.hid (packsM 13 hX [10] (List.forall_mem_cons.2 ⟨hw 10 (by kernel_rfl), (fun _ h => nomatch h)⟩))
      clear hX
      rw [h10]
      clear h10
      rw [if_neg (by exact Bool.false_ne_true)]
      exact hK.out _ _ ⟨fun j => bif (13 :: [10]).contains j then (fun i => ([.pointer (some ⟨rb, 0, none⟩), .pointer (some ⟨rb, 0, none⟩), .pointer (some ⟨rb, 1, none⟩), .int .i64 n, .pointer (some ⟨rb, 0, none⟩), .pointer (some ⟨rb, 0, none⟩), .pointer (some ⟨rb, 0, none⟩), .string s, .int .i64 s.size, .bool false, .bool false, undef, undef, undef, undef, undef, undef, undef, undef, undef, undef, undef, undef, .bool false, .bool false] : List Value).getD i undef) j else X j, rfl, HX.out, hT⟩
    refine Owed.next (n := 14) (o := ?orb14) ?horb14 ?hrb14 ?hsrb14
    case horb14 => rfl
    case hrb14 =>
      intro l act w1 hw hl hI K hK
      obtain ⟨X, rfl, hX, hT⟩ := hI
      have h10 : X 10 = .bool false := hX 10 (hw 10 (by kernel_rfl)) (by kernel_rfl)
      have HX := Lib.hid (packsM 14 hX [10] (List.forall_mem_cons.2 ⟨hw 10 (by kernel_rfl), (fun _ h => nomatch h)⟩))
      clear hX
      rw [h10]
      clear h10
      rw [if_neg (by exact Bool.false_ne_true)]
      exact hK.out _ _ ⟨fun j => bif (14 :: [10]).contains j then (fun i => ([.pointer (some ⟨rb, 0, none⟩), .pointer (some ⟨rb, 0, none⟩), .pointer (some ⟨rb, 1, none⟩), .int .i64 n, .pointer (some ⟨rb, 0, none⟩), .pointer (some ⟨rb, 0, none⟩), .pointer (some ⟨rb, 0, none⟩), .string s, .int .i64 s.size, .bool false, .bool false, undef, undef, undef, undef, undef, undef, undef, undef, undef, undef, undef, undef, .bool false, .bool false] : List Value).getD i undef) j else X j, rfl, HX.out, hT⟩
    refine Owed.next (n := 15) (o := ?orb15) ?horb15 ?hrb15 ?hsrb15
    case horb15 => rfl
    case hrb15 =>
      intro l act w1 hw hl hI K hK
      obtain ⟨X, rfl, hX, hT⟩ := hI
      have h10 : X 10 = .bool false := hX 10 (hw 10 (by kernel_rfl)) (by kernel_rfl)
      have HX := Lib.hid (packsM 15 hX [10] (List.forall_mem_cons.2 ⟨hw 10 (by kernel_rfl), (fun _ h => nomatch h)⟩))
      clear hX
      rw [h10]
      clear h10
      rw [if_neg (by exact Bool.false_ne_true)]
      exact hK.out _ _ ⟨fun j => bif (15 :: [10]).contains j then (fun i => ([.pointer (some ⟨rb, 0, none⟩), .pointer (some ⟨rb, 0, none⟩), .pointer (some ⟨rb, 1, none⟩), .int .i64 n, .pointer (some ⟨rb, 0, none⟩), .pointer (some ⟨rb, 0, none⟩), .pointer (some ⟨rb, 0, none⟩), .string s, .int .i64 s.size, .bool false, .bool false, undef, undef, undef, undef, undef, undef, undef, undef, undef, undef, undef, undef, .bool false, .bool false] : List Value).getD i undef) j else X j, rfl, HX.out, hT⟩
    refine Owed.next (n := 16) (o := ?orb16) ?horb16 ?hrb16 ?hsrb16
    case horb16 => rfl
    case hrb16 =>
      intro l act w1 hw hl hI K hK
      obtain ⟨X, rfl, hX, hT⟩ := hI
      have h10 : X 10 = .bool false := hX 10 (hw 10 (by kernel_rfl)) (by kernel_rfl)
      have HX := Lib.hid (packsM 16 hX [10] (List.forall_mem_cons.2 ⟨hw 10 (by kernel_rfl), (fun _ h => nomatch h)⟩))
      clear hX
      rw [h10]
      clear h10
      rw [if_neg (by exact Bool.false_ne_true)]
      exact hK.out _ _ ⟨fun j => bif (16 :: [10]).contains j then (fun i => ([.pointer (some ⟨rb, 0, none⟩), .pointer (some ⟨rb, 0, none⟩), .pointer (some ⟨rb, 1, none⟩), .int .i64 n, .pointer (some ⟨rb, 0, none⟩), .pointer (some ⟨rb, 0, none⟩), .pointer (some ⟨rb, 0, none⟩), .string s, .int .i64 s.size, .bool false, .bool false, undef, undef, undef, undef, undef, undef, undef, undef, undef, undef, undef, undef, .bool false, .bool false] : List Value).getD i undef) j else X j, rfl, HX.out, hT⟩
    refine Owed.next (n := 17) (o := ?orb17) ?horb17 ?hrb17 ?hsrb17
    case horb17 => rfl
    case hrb17 =>
      intro l act w1 hw hl hI K hK
      obtain ⟨X, rfl, hX, hT⟩ := hI
      have h10 : X 10 = .bool false := hX 10 (hw 10 (by kernel_rfl)) (by kernel_rfl)
      have HX := Lib.hid (packsM 17 hX [10] (List.forall_mem_cons.2 ⟨hw 10 (by kernel_rfl), (fun _ h => nomatch h)⟩))
      clear hX
      rw [h10]
      clear h10
      rw [if_neg (by exact Bool.false_ne_true)]
      exact hK.out _ _ ⟨fun j => bif (17 :: [10]).contains j then (fun i => ([.pointer (some ⟨rb, 0, none⟩), .pointer (some ⟨rb, 0, none⟩), .pointer (some ⟨rb, 1, none⟩), .int .i64 n, .pointer (some ⟨rb, 0, none⟩), .pointer (some ⟨rb, 0, none⟩), .pointer (some ⟨rb, 0, none⟩), .string s, .int .i64 s.size, .bool false, .bool false, undef, undef, undef, undef, undef, undef, undef, undef, undef, undef, undef, undef, .bool false, .bool false] : List Value).getD i undef) j else X j, rfl, HX.out, hT⟩
    refine Owed.next (n := 18) (o := ?orb18) ?horb18 ?hrb18 ?hsrb18
    case horb18 => rfl
    case hrb18 =>
      intro l act w1 hw hl hI K hK
      obtain ⟨X, rfl, hX, hT⟩ := hI
      have h10 : X 10 = .bool false := hX 10 (hw 10 (by kernel_rfl)) (by kernel_rfl)
      have HX := Lib.hid (packsM 18 hX [10] (List.forall_mem_cons.2 ⟨hw 10 (by kernel_rfl), (fun _ h => nomatch h)⟩))
      clear hX
      rw [h10]
      clear h10
      rw [if_neg (by exact Bool.false_ne_true)]
      exact hK.out _ _ ⟨fun j => bif (18 :: [10]).contains j then (fun i => ([.pointer (some ⟨rb, 0, none⟩), .pointer (some ⟨rb, 0, none⟩), .pointer (some ⟨rb, 1, none⟩), .int .i64 n, .pointer (some ⟨rb, 0, none⟩), .pointer (some ⟨rb, 0, none⟩), .pointer (some ⟨rb, 0, none⟩), .string s, .int .i64 s.size, .bool false, .bool false, undef, undef, undef, undef, undef, undef, undef, undef, undef, undef, undef, undef, .bool false, .bool false] : List Value).getD i undef) j else X j, rfl, HX.out, hT⟩
    refine Owed.next (n := 19) (o := ?orb19) ?horb19 ?hrb19 ?hsrb19
    case horb19 => rfl
    case hrb19 =>
      intro l act w1 hw hl hI K hK
      obtain ⟨X, rfl, hX, hT⟩ := hI
      have h10 : X 10 = .bool false := hX 10 (hw 10 (by kernel_rfl)) (by kernel_rfl)
      have HX := Lib.hid (packsM 19 hX [10] (List.forall_mem_cons.2 ⟨hw 10 (by kernel_rfl), (fun _ h => nomatch h)⟩))
      clear hX
      rw [h10]
      clear h10
      rw [if_neg (by exact Bool.false_ne_true)]
      exact hK.out _ _ ⟨fun j => bif (19 :: [10]).contains j then (fun i => ([.pointer (some ⟨rb, 0, none⟩), .pointer (some ⟨rb, 0, none⟩), .pointer (some ⟨rb, 1, none⟩), .int .i64 n, .pointer (some ⟨rb, 0, none⟩), .pointer (some ⟨rb, 0, none⟩), .pointer (some ⟨rb, 0, none⟩), .string s, .int .i64 s.size, .bool false, .bool false, undef, undef, undef, undef, undef, undef, undef, undef, undef, undef, undef, undef, .bool false, .bool false] : List Value).getD i undef) j else X j, rfl, HX.out, hT⟩
    refine Owed.next (n := 20) (o := ?orb20) ?horb20 ?hrb20 ?hsrb20
    case horb20 => rfl
    case hrb20 =>
      intro l act w1 hw hl hI K hK
      obtain ⟨X, rfl, hX, hT⟩ := hI
      have h10 : X 10 = .bool false := hX 10 (hw 10 (by kernel_rfl)) (by kernel_rfl)
      have HX := Lib.hid (packsM 20 hX [10] (List.forall_mem_cons.2 ⟨hw 10 (by kernel_rfl), (fun _ h => nomatch h)⟩))
      clear hX
      rw [h10]
      clear h10
      rw [if_neg (by exact Bool.false_ne_true)]
      exact hK.out _ _ ⟨fun j => bif (20 :: [10]).contains j then (fun i => ([.pointer (some ⟨rb, 0, none⟩), .pointer (some ⟨rb, 0, none⟩), .pointer (some ⟨rb, 1, none⟩), .int .i64 n, .pointer (some ⟨rb, 0, none⟩), .pointer (some ⟨rb, 0, none⟩), .pointer (some ⟨rb, 0, none⟩), .string s, .int .i64 s.size, .bool false, .bool false, undef, undef, undef, undef, undef, undef, undef, undef, undef, undef, undef, undef, .bool false, .bool false] : List Value).getD i undef) j else X j, rfl, HX.out, hT⟩
    refine Owed.next (n := 21) (o := ?orb21) ?horb21 ?hrb21 ?hsrb21
    case horb21 => rfl
    case hrb21 =>
      intro l act w1 hw hl hI K hK
      obtain ⟨X, rfl, hX, hT⟩ := hI
      have h10 : X 10 = .bool false := hX 10 (hw 10 (by kernel_rfl)) (by kernel_rfl)
      have HX := Lib.hid (packsM 21 hX [10] (List.forall_mem_cons.2 ⟨hw 10 (by kernel_rfl), (fun _ h => nomatch h)⟩))
      clear hX
      rw [h10]
      clear h10
      rw [if_neg (by exact Bool.false_ne_true)]
      exact hK.out _ _ ⟨fun j => bif (21 :: [10]).contains j then (fun i => ([.pointer (some ⟨rb, 0, none⟩), .pointer (some ⟨rb, 0, none⟩), .pointer (some ⟨rb, 1, none⟩), .int .i64 n, .pointer (some ⟨rb, 0, none⟩), .pointer (some ⟨rb, 0, none⟩), .pointer (some ⟨rb, 0, none⟩), .string s, .int .i64 s.size, .bool false, .bool false, undef, undef, undef, undef, undef, undef, undef, undef, undef, undef, undef, undef, .bool false, .bool false] : List Value).getD i undef) j else X j, rfl, HX.out, hT⟩
    refine Owed.next (n := 22) (o := ?orb22) ?horb22 ?hrb22 ?hsrb22
    case horb22 => rfl
    case hrb22 =>
      intro l act w1 hw hl hI K hK
      obtain ⟨X, rfl, hX, hT⟩ := hI
      have h10 : X 10 = .bool false := hX 10 (hw 10 (by kernel_rfl)) (by kernel_rfl)
      have HX := Lib.hid (packsM 22 hX [10] (List.forall_mem_cons.2 ⟨hw 10 (by kernel_rfl), (fun _ h => nomatch h)⟩))
      clear hX
      rw [h10]
      clear h10
      rw [if_neg (by exact Bool.false_ne_true)]
      exact hK.out _ _ ⟨fun j => bif (22 :: [10]).contains j then (fun i => ([.pointer (some ⟨rb, 0, none⟩), .pointer (some ⟨rb, 0, none⟩), .pointer (some ⟨rb, 1, none⟩), .int .i64 n, .pointer (some ⟨rb, 0, none⟩), .pointer (some ⟨rb, 0, none⟩), .pointer (some ⟨rb, 0, none⟩), .string s, .int .i64 s.size, .bool false, .bool false, undef, undef, undef, undef, undef, undef, undef, undef, undef, undef, undef, undef, .bool false, .bool false] : List Value).getD i undef) j else X j, rfl, HX.out, hT⟩
    refine Owed.next (n := 23) (o := ?orb23) ?horb23 ?hrb23 ?hsrb23
    case horb23 => rfl
    case hrb23 =>
      intro l act w1 hw hl hI K hK
      obtain ⟨X, rfl, hX, hT⟩ := hI
      have h10 : X 10 = .bool false := hX 10 (hw 10 (by kernel_rfl)) (by kernel_rfl)
      have HX := Lib.hid (packsM 23 hX [10] (List.forall_mem_cons.2 ⟨hw 10 (by kernel_rfl), (fun _ h => nomatch h)⟩))
      clear hX
      rw [h10]
      clear h10
      rw [if_pos (by rfl)]
      go_wp2_with fail
      exact hK.out _ _ ⟨fun j => bif (23 :: [10]).contains j then (fun i => ([.pointer (some ⟨rb, 0, none⟩), .pointer (some ⟨rb, 0, none⟩), .pointer (some ⟨rb, 1, none⟩), .int .i64 n, .pointer (some ⟨rb, 0, none⟩), .pointer (some ⟨rb, 0, none⟩), .pointer (some ⟨rb, 0, none⟩), .string s, .int .i64 s.size, .bool false, .bool false, undef, undef, undef, undef, undef, undef, undef, undef, undef, undef, undef, undef, .bool false, .bool false] : List Value).getD i undef) j else X j, rfl, HX.out, hT⟩
    refine Owed.next (n := 24) (o := ?orb24) ?horb24 ?hrb24 ?hsrb24
    case horb24 => rfl
    case hrb24 =>
      intro l act w1 hw hl hI K hK
      obtain ⟨X, rfl, hX, hT⟩ := hI
      have h23 : X 23 = .bool false := hX 23 (hw 23 (by kernel_rfl)) (by kernel_rfl)
      have HX := Lib.hid (packsM 24 hX [23] (List.forall_mem_cons.2 ⟨hw 23 (by kernel_rfl), (fun _ h => nomatch h)⟩))
      clear hX
      rw [h23]
      clear h23
      rw [if_pos (by rfl)]
      go_wp2_with fail
      exact hK.out _ _ ⟨fun j => bif (24 :: [23]).contains j then (fun i => ([.pointer (some ⟨rb, 0, none⟩), .pointer (some ⟨rb, 0, none⟩), .pointer (some ⟨rb, 1, none⟩), .int .i64 n, .pointer (some ⟨rb, 0, none⟩), .pointer (some ⟨rb, 0, none⟩), .pointer (some ⟨rb, 0, none⟩), .string s, .int .i64 s.size, .bool false, .bool false, undef, undef, undef, undef, undef, undef, undef, undef, undef, undef, undef, undef, .bool false, .bool false] : List Value).getD i undef) j else X j, rfl, HX.out, hT⟩
    exact Owed.last rfl
  case finrb =>
    intro l act w1 hl hI
    obtain ⟨X, rfl, hX, hT⟩ := hI
    have h0 : X 0 = .pointer (some ⟨rb, 0, none⟩) := hX 0 (hl 0 (by kernel_rfl)) (by kernel_rfl)
    have h1 : X 1 = .pointer (some ⟨rb, 0, none⟩) := hX 1 (hl 1 (by kernel_rfl)) (by kernel_rfl)
    have h2 : X 2 = .pointer (some ⟨rb, 1, none⟩) := hX 2 (hl 2 (by kernel_rfl)) (by kernel_rfl)
    have h3 : X 3 = .int .i64 n := hX 3 (hl 3 (by kernel_rfl)) (by kernel_rfl)
    have h4 : X 4 = .pointer (some ⟨rb, 0, none⟩) := hX 4 (hl 4 (by kernel_rfl)) (by kernel_rfl)
    have h5 : X 5 = .pointer (some ⟨rb, 0, none⟩) := hX 5 (hl 5 (by kernel_rfl)) (by kernel_rfl)
    have h6 : X 6 = .pointer (some ⟨rb, 0, none⟩) := hX 6 (hl 6 (by kernel_rfl)) (by kernel_rfl)
    have h7 : X 7 = .string s := hX 7 (hl 7 (by kernel_rfl)) (by kernel_rfl)
    have h8 : X 8 = .int .i64 s.size := hX 8 (hl 8 (by kernel_rfl)) (by kernel_rfl)
    have h9 : X 9 = .bool false := hX 9 (hl 9 (by kernel_rfl)) (by kernel_rfl)
    have h10 : X 10 = .bool false := hX 10 (hl 10 (by kernel_rfl)) (by kernel_rfl)
    have h11 : X 11 = undef := hX 11 (hl 11 (by kernel_rfl)) (by kernel_rfl)
    have h12 : X 12 = undef := hX 12 (hl 12 (by kernel_rfl)) (by kernel_rfl)
    have h13 : X 13 = undef := hX 13 (hl 13 (by kernel_rfl)) (by kernel_rfl)
    have h14 : X 14 = undef := hX 14 (hl 14 (by kernel_rfl)) (by kernel_rfl)
    have h15 : X 15 = undef := hX 15 (hl 15 (by kernel_rfl)) (by kernel_rfl)
    have h16 : X 16 = undef := hX 16 (hl 16 (by kernel_rfl)) (by kernel_rfl)
    have h17 : X 17 = undef := hX 17 (hl 17 (by kernel_rfl)) (by kernel_rfl)
    have h18 : X 18 = undef := hX 18 (hl 18 (by kernel_rfl)) (by kernel_rfl)
    have h19 : X 19 = undef := hX 19 (hl 19 (by kernel_rfl)) (by kernel_rfl)
    have h20 : X 20 = undef := hX 20 (hl 20 (by kernel_rfl)) (by kernel_rfl)
    have h21 : X 21 = undef := hX 21 (hl 21 (by kernel_rfl)) (by kernel_rfl)
    have h22 : X 22 = undef := hX 22 (hl 22 (by kernel_rfl)) (by kernel_rfl)
    have h23 : X 23 = .bool false := hX 23 (hl 23 (by kernel_rfl)) (by kernel_rfl)
    have h24 : X 24 = .bool false := hX 24 (hl 24 (by kernel_rfl)) (by kernel_rfl)
    rw [h0, h1, h2, h3, h4, h5, h6, h7, h8, h9, h10, h11, h12, h13, h14, h15, h16, h17, h18, h19, h20, h21, h22, h23, h24]
    clear h0 h1 h2 h3 h4 h5 h6 h7 h8 h9 h10 h11 h12 h13 h14 h15 h16 h17 h18 h19 h20 h21 h22 h23 h24 hX
    go_wp2
    go_ret
    exact ⟨rfl, hT⟩
set_option maxHeartbeats 2000000 in
theorem ahead_in (rb n : Nat) (s B : ByteArray) (w : World) (h : Hid (Gat rb s n w)) (hn : n < s.size) (hn2 : Hid ((n : Int) < (s.size : Int))) (I : Int) (v : Bool) (hv2 : Hid (decide (0 ≤ I) = v))
    (hix : Hid (∀ w, Calls Tryd.prog 92 #[.string B, .int .u8 s[n].toNat] w fun e w' => e = .returned (.int .i64 I) ∧ w = w')) :
    Calls Tryd.prog 83 #[.pointer (some ⟨rb, 0, none⟩), .string B] w fun e w' => e = .returned (.bool v) ∧ Gk rb s n w w' := by
  go_enter Tryd.func83, Tryd.ntmps83
  go_wp2_with fail
  refine wp_region_owed (fun l act w1 => ∃ X : Nat → Value, act = ⟨(List.toArray (.pointer (some ⟨rb, 0, none⟩) :: .string B :: undef :: undef :: X 24 :: X 0 :: X 1 :: X 2 :: X 3 :: X 4 :: X 5 :: X 6 :: X 7 :: X 8 :: X 9 :: X 10 :: X 11 :: X 12 :: X 13 :: X 14 :: X 15 :: X 16 :: X 17 :: X 18 :: X 19 :: X 20 :: X 21 :: X 22 :: X 23 :: [])), []⟩ ∧ (∀ i, l i = true → ([0, 1, 2, 3, 4, 5, 6, 7, 8, 9, 10, 11, 12, 13, 14, 15, 16, 17, 18, 19, 20, 21, 22, 23, 24] : List Nat).contains i = true → X i = (fun i => ([.pointer (some ⟨rb, 0, none⟩), .pointer (some ⟨rb, 0, none⟩), .pointer (some ⟨rb, 1, none⟩), .int .i64 n, .pointer (some ⟨rb, 0, none⟩), .pointer (some ⟨rb, 0, none⟩), .pointer (some ⟨rb, 0, none⟩), .string s, .int .i64 s.size, .bool true, .bool true, .string B, .pointer (some ⟨rb, 0, none⟩), .pointer (some ⟨rb, 0, none⟩), .pointer (some ⟨rb, 0, none⟩), .string s, .pointer (some ⟨rb, 0, none⟩), .pointer (some ⟨rb, 0, none⟩), .pointer (some ⟨rb, 1, none⟩), .int .i64 n, .int .u8 s[n].toNat, .int .i64 I, .bool v, .bool v, .bool v] : List Value).getD i undef) i) ∧ Gk rb s n w w1) (by kernel_rfl) (by kernel_rfl) ⟨(fun i => ([undef, undef, undef, undef, undef, undef, undef, undef, undef, undef, undef, undef, undef, undef, undef, undef, undef, undef, undef, undef, undef, undef, undef, undef, .bool false] : List Value).getD i undef), rfl, (fun i h => by cases h), Gk.drewN h.out 1⟩ ?stra ?finra
  case stra =>
    go_light
    refine Owed.next (n := 0) (o := ?ora0) ?hora0 ?hra0 ?hsra0
    case hora0 => rfl
    case hra0 =>
      intro l act w1 hw hl hI K hK
      obtain ⟨X, rfl, hX, hT⟩ := hI
      have HX := Lib.hid (packsM 0 hX [] (fun _ h => nomatch h))
      clear hX
      rw [if_pos (by rfl)]
      go_wp2_with fail
      exact hK.out _ _ ⟨fun j => bif (0 :: []).contains j then (fun i => ([.pointer (some ⟨rb, 0, none⟩), .pointer (some ⟨rb, 0, none⟩), .pointer (some ⟨rb, 1, none⟩), .int .i64 n, .pointer (some ⟨rb, 0, none⟩), .pointer (some ⟨rb, 0, none⟩), .pointer (some ⟨rb, 0, none⟩), .string s, .int .i64 s.size, .bool true, .bool true, .string B, .pointer (some ⟨rb, 0, none⟩), .pointer (some ⟨rb, 0, none⟩), .pointer (some ⟨rb, 0, none⟩), .string s, .pointer (some ⟨rb, 0, none⟩), .pointer (some ⟨rb, 0, none⟩), .pointer (some ⟨rb, 1, none⟩), .int .i64 n, .int .u8 s[n].toNat, .int .i64 I, .bool v, .bool v, .bool v] : List Value).getD i undef) j else X j, rfl, HX.out, hT⟩
    refine Owed.next (n := 1) (o := ?ora1) ?hora1 ?hra1 ?hsra1
    case hora1 => rfl
    case hra1 =>
      intro l act w1 hw hl hI K hK
      obtain ⟨X, rfl, hX, hT⟩ := hI
      have h0 : X 0 = .pointer (some ⟨rb, 0, none⟩) := hX 0 (hw 0 (by kernel_rfl)) (by kernel_rfl)
      have HX := Lib.hid (packsM 1 hX [0] (List.forall_mem_cons.2 ⟨hw 0 (by kernel_rfl), (fun _ h => nomatch h)⟩))
      clear hX
      have z := hT.2.lt
      rw [h0]
      clear h0
      rw [if_pos (by rfl)]
      go_wp2_with fail
      exact hK.out _ _ ⟨fun j => bif (1 :: [0]).contains j then (fun i => ([.pointer (some ⟨rb, 0, none⟩), .pointer (some ⟨rb, 0, none⟩), .pointer (some ⟨rb, 1, none⟩), .int .i64 n, .pointer (some ⟨rb, 0, none⟩), .pointer (some ⟨rb, 0, none⟩), .pointer (some ⟨rb, 0, none⟩), .string s, .int .i64 s.size, .bool true, .bool true, .string B, .pointer (some ⟨rb, 0, none⟩), .pointer (some ⟨rb, 0, none⟩), .pointer (some ⟨rb, 0, none⟩), .string s, .pointer (some ⟨rb, 0, none⟩), .pointer (some ⟨rb, 0, none⟩), .pointer (some ⟨rb, 1, none⟩), .int .i64 n, .int .u8 s[n].toNat, .int .i64 I, .bool v, .bool v, .bool v] : List Value).getD i undef) j else X j, rfl, HX.out, hT⟩
    refine Owed.next (n := 2) (o := ?ora2) ?hora2 ?hra2 ?hsra2
    case hora2 => rfl
    case hra2 =>
      intro l act w1 hw hl hI K hK
      obtain ⟨X, rfl, hX, hT⟩ := hI
      have h1 : X 1 = .pointer (some ⟨rb, 0, none⟩) := hX 1 (hw 1 (by kernel_rfl)) (by kernel_rfl)
      have HX := Lib.hid (packsM 2 hX [1] (List.forall_mem_cons.2 ⟨hw 1 (by kernel_rfl), (fun _ h => nomatch h)⟩))
      clear hX
      rw [h1]
      clear h1
      rw [if_pos (by rfl)]
      go_wp2_with fail
      exact hK.out _ _ ⟨fun j => bif (2 :: [1]).contains j then (fun i => ([.pointer (some ⟨rb, 0, none⟩), .pointer (some ⟨rb, 0, none⟩), .pointer (some ⟨rb, 1, none⟩), .int .i64 n, .pointer (some ⟨rb, 0, none⟩), .pointer (some ⟨rb, 0, none⟩), .pointer (some ⟨rb, 0, none⟩), .string s, .int .i64 s.size, .bool true, .bool true, .string B, .pointer (some ⟨rb, 0, none⟩), .pointer (some ⟨rb, 0, none⟩), .pointer (some ⟨rb, 0, none⟩), .string s, .pointer (some ⟨rb, 0, none⟩), .pointer (some ⟨rb, 0, none⟩), .pointer (some ⟨rb, 1, none⟩), .int .i64 n, .int .u8 s[n].toNat, .int .i64 I, .bool v, .bool v, .bool v] : List Value).getD i undef) j else X j, rfl, HX.out, hT⟩
    refine Owed.next (n := 3) (o := ?ora3) ?hora3 ?hra3 ?hsra3
    case hora3 => rfl
    case hra3 =>
      intro l act w1 hw hl hI K hK
      obtain ⟨X, rfl, hX, hT⟩ := hI
      have h2 : X 2 = .pointer (some ⟨rb, 1, none⟩) := hX 2 (hw 2 (by kernel_rfl)) (by kernel_rfl)
      have HX := Lib.hid (packsM 3 hX [2] (List.forall_mem_cons.2 ⟨hw 2 (by kernel_rfl), (fun _ h => nomatch h)⟩))
      clear hX
      have c1 := hT.2.c1
      rw [h2]
      clear h2
      rw [if_pos (by rfl)]
      go_wp2_with fail
      exact hK.out _ _ ⟨fun j => bif (3 :: [2]).contains j then (fun i => ([.pointer (some ⟨rb, 0, none⟩), .pointer (some ⟨rb, 0, none⟩), .pointer (some ⟨rb, 1, none⟩), .int .i64 n, .pointer (some ⟨rb, 0, none⟩), .pointer (some ⟨rb, 0, none⟩), .pointer (some ⟨rb, 0, none⟩), .string s, .int .i64 s.size, .bool true, .bool true, .string B, .pointer (some ⟨rb, 0, none⟩), .pointer (some ⟨rb, 0, none⟩), .pointer (some ⟨rb, 0, none⟩), .string s, .pointer (some ⟨rb, 0, none⟩), .pointer (some ⟨rb, 0, none⟩), .pointer (some ⟨rb, 1, none⟩), .int .i64 n, .int .u8 s[n].toNat, .int .i64 I, .bool v, .bool v, .bool v] : List Value).getD i undef) j else X j, rfl, HX.out, hT⟩
    refine Owed.next (n := 4) (o := ?ora4) ?hora4 ?hra4 ?hsra4
    case hora4 => rfl
    case hra4 =>
      intro l act w1 hw hl hI K hK
      obtain ⟨X, rfl, hX, hT⟩ := hI
      have HX := Lib.hid (packsM 4 hX [] (fun _ h => nomatch h))
      clear hX
      rw [if_pos (by rfl)]
      go_wp2_with fail
      exact hK.out _ _ ⟨fun j => bif (4 :: []).contains j then (fun i => ([.pointer (some ⟨rb, 0, none⟩), .pointer (some ⟨rb, 0, none⟩), .pointer (some ⟨rb, 1, none⟩), .int .i64 n, .pointer (some ⟨rb, 0, none⟩), .pointer (some ⟨rb, 0, none⟩), .pointer (some ⟨rb, 0, none⟩), .string s, .int .i64 s.size, .bool true, .bool true, .string B, .pointer (some ⟨rb, 0, none⟩), .pointer (some ⟨rb, 0, none⟩), .pointer (some ⟨rb, 0, none⟩), .string s, .pointer (some ⟨rb, 0, none⟩), .pointer (some ⟨rb, 0, none⟩), .pointer (some ⟨rb, 1, none⟩), .int .i64 n, .int .u8 s[n].toNat, .int .i64 I, .bool v, .bool v, .bool v] : List Value).getD i undef) j else X j, rfl, HX.out, hT⟩
    refine Owed.next (n := 5) (o := ?ora5) ?hora5 ?hra5 ?hsra5
    case hora5 => rfl
    case hra5 =>
      intro l act w1 hw hl hI K hK
      obtain ⟨X, rfl, hX, hT⟩ := hI
      have h4 : X 4 = .pointer (some ⟨rb, 0, none⟩) := hX 4 (hw 4 (by kernel_rfl)) (by kernel_rfl)
      have HX := Lib.hid (packsM 5 hX [4] (List.forall_mem_cons.2 ⟨hw 4 (by kernel_rfl), (fun _ h => nomatch h)⟩))
      clear hX
      have z := hT.2.lt
      rw [h4]
      clear h4
      rw [if_pos (by rfl)]
      go_wp2_with fail
      exact hK.out _ _ ⟨fun j => bif (5 :: [4]).contains j then (fun i => ([.pointer (some ⟨rb, 0, none⟩), .pointer (some ⟨rb, 0, none⟩), .pointer (some ⟨rb, 1, none⟩), .int .i64 n, .pointer (some ⟨rb, 0, none⟩), .pointer (some ⟨rb, 0, none⟩), .pointer (some ⟨rb, 0, none⟩), .string s, .int .i64 s.size, .bool true, .bool true, .string B, .pointer (some ⟨rb, 0, none⟩), .pointer (some ⟨rb, 0, none⟩), .pointer (some ⟨rb, 0, none⟩), .string s, .pointer (some ⟨rb, 0, none⟩), .pointer (some ⟨rb, 0, none⟩), .pointer (some ⟨rb, 1, none⟩), .int .i64 n, .int .u8 s[n].toNat, .int .i64 I, .bool v, .bool v, .bool v] : List Value).getD i undef) j else X j, rfl, HX.out, hT⟩
    refine Owed.next (n := 6) (o := ?ora6) ?hora6 ?hra6 ?hsra6
    case hora6 => rfl
    case hra6 =>
      intro l act w1 hw hl hI K hK
      obtain ⟨X, rfl, hX, hT⟩ := hI
      have h5 : X 5 = .pointer (some ⟨rb, 0, none⟩) := hX 5 (hw 5 (by kernel_rfl)) (by kernel_rfl)
      have HX := Lib.hid (packsM 6 hX [5] (List.forall_mem_cons.2 ⟨hw 5 (by kernel_rfl), (fun _ h => nomatch h)⟩))
      clear hX
      rw [h5]
      clear h5
      rw [if_pos (by rfl)]
      go_wp2_with fail
      exact hK.out _ _ ⟨fun j => bif (6 :: [5]).contains j then (fun i => ([.pointer (some ⟨rb, 0, none⟩), .pointer (some ⟨rb, 0, none⟩), .pointer (some ⟨rb, 1, none⟩), .int .i64 n, .pointer (some ⟨rb, 0, none⟩), .pointer (some ⟨rb, 0, none⟩), .pointer (some ⟨rb, 0, none⟩), .string s, .int .i64 s.size, .bool true, .bool true, .string B, .pointer (some ⟨rb, 0, none⟩), .pointer (some ⟨rb, 0, none⟩), .pointer (some ⟨rb, 0, none⟩), .string s, .pointer (some ⟨rb, 0, none⟩), .pointer (some ⟨rb, 0, none⟩), .pointer (some ⟨rb, 1, none⟩), .int .i64 n, .int .u8 s[n].toNat, .int .i64 I, .bool v, .bool v, .bool v] : List Value).getD i undef) j else X j, rfl, HX.out, hT⟩
    refine Owed.next (n := 7) (o := ?ora7) ?hora7 ?hra7 ?hsra7
    case hora7 => rfl
    case hra7 =>
      intro l act w1 hw hl hI K hK
      obtain ⟨X, rfl, hX, hT⟩ := hI
      have h6 : X 6 = .pointer (some ⟨rb, 0, none⟩) := hX 6 (hw 6 (by kernel_rfl)) (by kernel_rfl)
      have HX := Lib.hid (packsM 7 hX [6] (List.forall_mem_cons.2 ⟨hw 6 (by kernel_rfl), (fun _ h => nomatch h)⟩))
      clear hX
      have c0 := hT.2.c0
      rw [h6]
      clear h6
      rw [if_pos (by rfl)]
      go_wp2_with fail
      exact hK.out _ _ ⟨fun j => bif (7 :: [6]).contains j then (fun i => ([.pointer (some ⟨rb, 0, none⟩), .pointer (some ⟨rb, 0, none⟩), .pointer (some ⟨rb, 1, none⟩), .int .i64 n, .pointer (some ⟨rb, 0, none⟩), .pointer (some ⟨rb, 0, none⟩), .pointer (some ⟨rb, 0, none⟩), .string s, .int .i64 s.size, .bool true, .bool true, .string B, .pointer (some ⟨rb, 0, none⟩), .pointer (some ⟨rb, 0, none⟩), .pointer (some ⟨rb, 0, none⟩), .string s, .pointer (some ⟨rb, 0, none⟩), .pointer (some ⟨rb, 0, none⟩), .pointer (some ⟨rb, 1, none⟩), .int .i64 n, .int .u8 s[n].toNat, .int .i64 I, .bool v, .bool v, .bool v] : List Value).getD i undef) j else X j, rfl, HX.out, hT⟩
    refine Owed.next (n := 8) (o := ?ora8) ?hora8 ?hra8 ?hsra8
    case hora8 => rfl
    case hra8 =>
      intro l act w1 hw hl hI K hK
      obtain ⟨X, rfl, hX, hT⟩ := hI
      have h7 : X 7 = .string s := hX 7 (hw 7 (by kernel_rfl)) (by kernel_rfl)
      have HX := Lib.hid (packsM 8 hX [7] (List.forall_mem_cons.2 ⟨hw 7 (by kernel_rfl), (fun _ h => nomatch h)⟩))
      clear hX
      rw [h7]
      clear h7
      rw [if_pos (by rfl)]
      go_wp2_with fail
      exact hK.out _ _ ⟨fun j => bif (8 :: [7]).contains j then (fun i => ([.pointer (some ⟨rb, 0, none⟩), .pointer (some ⟨rb, 0, none⟩), .pointer (some ⟨rb, 1, none⟩), .int .i64 n, .pointer (some ⟨rb, 0, none⟩), .pointer (some ⟨rb, 0, none⟩), .pointer (some ⟨rb, 0, none⟩), .string s, .int .i64 s.size, .bool true, .bool true, .string B, .pointer (some ⟨rb, 0, none⟩), .pointer (some ⟨rb, 0, none⟩), .pointer (some ⟨rb, 0, none⟩), .string s, .pointer (some ⟨rb, 0, none⟩), .pointer (some ⟨rb, 0, none⟩), .pointer (some ⟨rb, 1, none⟩), .int .i64 n, .int .u8 s[n].toNat, .int .i64 I, .bool v, .bool v, .bool v] : List Value).getD i undef) j else X j, rfl, HX.out, hT⟩
    refine Owed.next (n := 9) (o := ?ora9) ?hora9 ?hra9 ?hsra9
    case hora9 => rfl
    case hra9 =>
      intro l act w1 hw hl hI K hK
      obtain ⟨X, rfl, hX, hT⟩ := hI
      have h3 : X 3 = .int .i64 n := hX 3 (hw 3 (by kernel_rfl)) (by kernel_rfl)
      have h8 : X 8 = .int .i64 s.size := hX 8 (hw 8 (by kernel_rfl)) (by kernel_rfl)
      have HX := Lib.hid (packsM 9 hX [3, 8] (List.forall_mem_cons.2 ⟨hw 3 (by kernel_rfl), (List.forall_mem_cons.2 ⟨hw 8 (by kernel_rfl), (fun _ h => nomatch h)⟩)⟩))
      clear hX
      have hn2 := hn2.out
      rw [h3, h8]
      clear h3 h8
      rw [if_pos (by rfl)]
      go_wp2_with fail
      exact hK.out _ _ ⟨fun j => bif (9 :: [3, 8]).contains j then (fun i => ([.pointer (some ⟨rb, 0, none⟩), .pointer (some ⟨rb, 0, none⟩), .pointer (some ⟨rb, 1, none⟩), .int .i64 n, .pointer (some ⟨rb, 0, none⟩), .pointer (some ⟨rb, 0, none⟩), .pointer (some ⟨rb, 0, none⟩), .string s, .int .i64 s.size, .bool true, .bool true, .string B, .pointer (some ⟨rb, 0, none⟩), .pointer (some ⟨rb, 0, none⟩), .pointer (some ⟨rb, 0, none⟩), .string s, .pointer (some ⟨rb, 0, none⟩), .pointer (some ⟨rb, 0, none⟩), .pointer (some ⟨rb, 1, none⟩), .int .i64 n, .int .u8 s[n].toNat, .int .i64 I, .bool v, .bool v, .bool v] : List Value).getD i undef) j else X j, rfl, HX.out, hT⟩
    refine Owed.next (n := 10) (o := ?ora10) ?hora10 ?hra10 ?hsra10
    case hora10 => rfl
    case hra10 =>
      intro l act w1 hw hl hI K hK
      obtain ⟨X, rfl, hX, hT⟩ := hI
      have h9 : X 9 = .bool true := hX 9 (hw 9 (by kernel_rfl)) (by kernel_rfl)
      have HX := Lib.hid (packsM 10 hX [9] (List.forall_mem_cons.2 ⟨hw 9 (by kernel_rfl), (fun _ h => nomatch h)⟩))
      clear hX
      rw [h9]
      clear h9
      rw [if_pos (by rfl)]
      go_wp2_with fail
      exact hK.out _ _ ⟨fun j => bif (10 :: [9]).contains j then (fun i => ([.pointer (some ⟨rb, 0, none⟩), .pointer (some ⟨rb, 0, none⟩), .pointer (some ⟨rb, 1, none⟩), .int .i64 n, .pointer (some ⟨rb, 0, none⟩), .pointer (some ⟨rb, 0, none⟩), .pointer (some ⟨rb, 0, none⟩), .string s, .int .i64 s.size, .bool true, .bool true, .string B, .pointer (some ⟨rb, 0, none⟩), .pointer (some ⟨rb, 0, none⟩), .pointer (some ⟨rb, 0, none⟩), .string s, .pointer (some ⟨rb, 0, none⟩), .pointer (some ⟨rb, 0, none⟩), .pointer (some ⟨rb, 1, none⟩), .int .i64 n, .int .u8 s[n].toNat, .int .i64 I, .bool v, .bool v, .bool v] : List Value).getD i undef) j else X j, rfl, HX.out, hT⟩
    refine Owed.next (n := 11) (o := ?ora11) ?hora11 ?hra11 ?hsra11
    case hora11 => rfl
    case hra11 =>
      intro l act w1 hw hl hI K hK
      obtain ⟨X, rfl, hX, hT⟩ := hI
      have h10 : X 10 = .bool true := hX 10 (hw 10 (by kernel_rfl)) (by kernel_rfl)
      have HX := Lib.hid (packsM 11 hX [10] (List.forall_mem_cons.2 ⟨hw 10 (by kernel_rfl), (fun _ h => nomatch h)⟩))
      clear hX
      rw [h10]
      clear h10
      rw [if_pos (by rfl)]
      go_wp2_with fail
      exact hK.out _ _ ⟨fun j => bif (11 :: [10]).contains j then (fun i => ([.pointer (some ⟨rb, 0, none⟩), .pointer (some ⟨rb, 0, none⟩), .pointer (some ⟨rb, 1, none⟩), .int .i64 n, .pointer (some ⟨rb, 0, none⟩), .pointer (some ⟨rb, 0, none⟩), .pointer (some ⟨rb, 0, none⟩), .string s, .int .i64 s.size, .bool true, .bool true, .string B, .pointer (some ⟨rb, 0, none⟩), .pointer (some ⟨rb, 0, none⟩), .pointer (some ⟨rb, 0, none⟩), .string s, .pointer (some ⟨rb, 0, none⟩), .pointer (some ⟨rb, 0, none⟩), .pointer (some ⟨rb, 1, none⟩), .int .i64 n, .int .u8 s[n].toNat, .int .i64 I, .bool v, .bool v, .bool v] : List Value).getD i undef) j else X j, rfl, HX.out, hT⟩
    refine Owed.next (n := 12) (o := ?ora12) ?hora12 ?hra12 ?hsra12
    case hora12 => rfl
    case hra12 =>
      intro l act w1 hw hl hI K hK
      obtain ⟨X, rfl, hX, hT⟩ := hI
      have h10 : X 10 = .bool true := hX 10 (hw 10 (by kernel_rfl)) (by kernel_rfl)
      have HX := Lib.hid (packsM 12 hX [10] (List.forall_mem_cons.2 ⟨hw 10 (by kernel_rfl), (fun _ h => nomatch h)⟩))
      clear hX
      rw [h10]
      clear h10
      rw [if_pos (by rfl)]
      go_wp2_with fail
      exact hK.out _ _ ⟨fun j => bif (12 :: [10]).contains j then (fun i => ([.pointer (some ⟨rb, 0, none⟩), .pointer (some ⟨rb, 0, none⟩), .pointer (some ⟨rb, 1, none⟩), .int .i64 n, .pointer (some ⟨rb, 0, none⟩), .pointer (some ⟨rb, 0, none⟩), .pointer (some ⟨rb, 0, none⟩), .string s, .int .i64 s.size, .bool true, .bool true, .string B, .pointer (some ⟨rb, 0, none⟩), .pointer (some ⟨rb, 0, none⟩), .pointer (some ⟨rb, 0, none⟩), .string s, .pointer (some ⟨rb, 0, none⟩), .pointer (some ⟨rb, 0, none⟩), .pointer (some ⟨rb, 1, none⟩), .int .i64 n, .int .u8 s[n].toNat, .int .i64 I, .bool v, .bool v, .bool v] : List Value).getD i undef) j else X j, rfl, HX.out, hT⟩
    refine Owed.next (n := 13) (o := ?ora13) ?hora13 ?hra13 ?hsra13
    case hora13 => rfl
    case hra13 =>
      intro l act w1 hw hl hI K hK
      obtain ⟨X, rfl, hX, hT⟩ := hI
      have h10 : X 10 = .bool true := hX 10 (hw 10 (by kernel_rfl)) (by kernel_rfl)
      have h12 : X 12 = .pointer (some ⟨rb, 0, none⟩) := hX 12 (hw 12 (by kernel_rfl)) (by kernel_rfl)
      have HX := Lib.hid (packsM 13 hX [10, 12] (List.forall_mem_cons.2 ⟨hw 10 (by kernel_rfl), (List.forall_mem_cons.2 ⟨hw 12 (by kernel_rfl), (fun _ h => nomatch h)⟩)⟩))
      clear hX
      have z := hT.2.lt
      rw [h10, h12]
      clear h10 h12
      rw [if_pos (by rfl)]
      go_wp2_with fail
      exact hK.out _ _ ⟨fun j => bif (13 :: [10, 12]).contains j then (fun i => ([.pointer (some ⟨rb, 0, none⟩), .pointer (some ⟨rb, 0, none⟩), .pointer (some ⟨rb, 1, none⟩), .int .i64 n, .pointer (some ⟨rb, 0, none⟩), .pointer (some ⟨rb, 0, none⟩), .pointer (some ⟨rb, 0, none⟩), .string s, .int .i64 s.size, .bool true, .bool true, .string B, .pointer (some ⟨rb, 0, none⟩), .pointer (some ⟨rb, 0, none⟩), .pointer (some ⟨rb, 0, none⟩), .string s, .pointer (some ⟨rb, 0, none⟩), .pointer (some ⟨rb, 0, none⟩), .pointer (some ⟨rb, 1, none⟩), .int .i64 n, .int .u8 s[n].toNat, .int .i64 I, .bool v, .bool v, .bool v] : List Value).getD i undef) j else X j, rfl, HX.out, hT⟩
    refine Owed.next (n := 14) (o := ?ora14) ?hora14 ?hra14 ?hsra14
    case hora14 => rfl
    case hra14 =>
      intro l act w1 hw hl hI K hK
      obtain ⟨X, rfl, hX, hT⟩ := hI
      have h10 : X 10 = .bool true := hX 10 (hw 10 (by kernel_rfl)) (by kernel_rfl)
      have h13 : X 13 = .pointer (some ⟨rb, 0, none⟩) := hX 13 (hw 13 (by kernel_rfl)) (by kernel_rfl)
      have HX := Lib.hid (packsM 14 hX [10, 13] (List.forall_mem_cons.2 ⟨hw 10 (by kernel_rfl), (List.forall_mem_cons.2 ⟨hw 13 (by kernel_rfl), (fun _ h => nomatch h)⟩)⟩))
      clear hX
      rw [h10, h13]
      clear h10 h13
      rw [if_pos (by rfl)]
      go_wp2_with fail
      exact hK.out _ _ ⟨fun j => bif (14 :: [10, 13]).contains j then (fun i => ([.pointer (some ⟨rb, 0, none⟩), .pointer (some ⟨rb, 0, none⟩), .pointer (some ⟨rb, 1, none⟩), .int .i64 n, .pointer (some ⟨rb, 0, none⟩), .pointer (some ⟨rb, 0, none⟩), .pointer (some ⟨rb, 0, none⟩), .string s, .int .i64 s.size, .bool true, .bool true, .string B, .pointer (some ⟨rb, 0, none⟩), .pointer (some ⟨rb, 0, none⟩), .pointer (some ⟨rb, 0, none⟩), .string s, .pointer (some ⟨rb, 0, none⟩), .pointer (some ⟨rb, 0, none⟩), .pointer (some ⟨rb, 1, none⟩), .int .i64 n, .int .u8 s[n].toNat, .int .i64 I, .bool v, .bool v, .bool v] : List Value).getD i undef) j else X j, rfl, HX.out, hT⟩
    refine Owed.next (n := 15) (o := ?ora15) ?hora15 ?hra15 ?hsra15
    case hora15 => rfl
    case hra15 =>
      intro l act w1 hw hl hI K hK
      obtain ⟨X, rfl, hX, hT⟩ := hI
      have h10 : X 10 = .bool true := hX 10 (hw 10 (by kernel_rfl)) (by kernel_rfl)
      have h14 : X 14 = .pointer (some ⟨rb, 0, none⟩) := hX 14 (hw 14 (by kernel_rfl)) (by kernel_rfl)
      have HX := Lib.hid (packsM 15 hX [10, 14] (List.forall_mem_cons.2 ⟨hw 10 (by kernel_rfl), (List.forall_mem_cons.2 ⟨hw 14 (by kernel_rfl), (fun _ h => nomatch h)⟩)⟩))
      clear hX
      have c0 := hT.2.c0
      rw [h10, h14]
      clear h10 h14
      rw [if_pos (by rfl)]
      go_wp2_with fail
      exact hK.out _ _ ⟨fun j => bif (15 :: [10, 14]).contains j then (fun i => ([.pointer (some ⟨rb, 0, none⟩), .pointer (some ⟨rb, 0, none⟩), .pointer (some ⟨rb, 1, none⟩), .int .i64 n, .pointer (some ⟨rb, 0, none⟩), .pointer (some ⟨rb, 0, none⟩), .pointer (some ⟨rb, 0, none⟩), .string s, .int .i64 s.size, .bool true, .bool true, .string B, .pointer (some ⟨rb, 0, none⟩), .pointer (some ⟨rb, 0, none⟩), .pointer (some ⟨rb, 0, none⟩), .string s, .pointer (some ⟨rb, 0, none⟩), .pointer (some ⟨rb, 0, none⟩), .pointer (some ⟨rb, 1, none⟩), .int .i64 n, .int .u8 s[n].toNat, .int .i64 I, .bool v, .bool v, .bool v] : List Value).getD i undef) j else X j, rfl, HX.out, hT⟩
    refine Owed.next (n := 16) (o := ?ora16) ?hora16 ?hra16 ?hsra16
    case hora16 => rfl
    case hra16 =>
      intro l act w1 hw hl hI K hK
      obtain ⟨X, rfl, hX, hT⟩ := hI
      have h10 : X 10 = .bool true := hX 10 (hw 10 (by kernel_rfl)) (by kernel_rfl)
      have HX := Lib.hid (packsM 16 hX [10] (List.forall_mem_cons.2 ⟨hw 10 (by kernel_rfl), (fun _ h => nomatch h)⟩))
      clear hX
      rw [h10]
      clear h10
      rw [if_pos (by rfl)]
      go_wp2_with fail
      exact hK.out _ _ ⟨fun j => bif (16 :: [10]).contains j then (fun i => ([.pointer (some ⟨rb, 0, none⟩), .pointer (some ⟨rb, 0, none⟩), .pointer (some ⟨rb, 1, none⟩), .int .i64 n, .pointer (some ⟨rb, 0, none⟩), .pointer (some ⟨rb, 0, none⟩), .pointer (some ⟨rb, 0, none⟩), .string s, .int .i64 s.size, .bool true, .bool true, .string B, .pointer (some ⟨rb, 0, none⟩), .pointer (some ⟨rb, 0, none⟩), .pointer (some ⟨rb, 0, none⟩), .string s, .pointer (some ⟨rb, 0, none⟩), .pointer (some ⟨rb, 0, none⟩), .pointer (some ⟨rb, 1, none⟩), .int .i64 n, .int .u8 s[n].toNat, .int .i64 I, .bool v, .bool v, .bool v] : List Value).getD i undef) j else X j, rfl, HX.out, hT⟩
    refine Owed.next (n := 17) (o := ?ora17) ?hora17 ?hra17 ?hsra17
    case hora17 => rfl
    case hra17 =>
      intro l act w1 hw hl hI K hK
      obtain ⟨X, rfl, hX, hT⟩ := hI
      have h10 : X 10 = .bool true := hX 10 (hw 10 (by kernel_rfl)) (by kernel_rfl)
      have h16 : X 16 = .pointer (some ⟨rb, 0, none⟩) := hX 16 (hw 16 (by kernel_rfl)) (by kernel_rfl)
      have HX := Lib.hid (packsM 17 hX [10, 16] (List.forall_mem_cons.2 ⟨hw 10 (by kernel_rfl), (List.forall_mem_cons.2 ⟨hw 16 (by kernel_rfl), (fun _ h => nomatch h)⟩)⟩))
      clear hX
      have z := hT.2.lt
      rw [h10, h16]
      clear h10 h16
      rw [if_pos (by rfl)]
      go_wp2_with fail
      exact hK.out _ _ ⟨fun j => bif (17 :: [10, 16]).contains j then (fun i => ([.pointer (some ⟨rb, 0, none⟩), .pointer (some ⟨rb, 0, none⟩), .pointer (some ⟨rb, 1, none⟩), .int .i64 n, .pointer (some ⟨rb, 0, none⟩), .pointer (some ⟨rb, 0, none⟩), .pointer (some ⟨rb, 0, none⟩), .string s, .int .i64 s.size, .bool true, .bool true, .string B, .pointer (some ⟨rb, 0, none⟩), .pointer (some ⟨rb, 0, none⟩), .pointer (some ⟨rb, 0, none⟩), .string s, .pointer (some ⟨rb, 0, none⟩), .pointer (some ⟨rb, 0, none⟩), .pointer (some ⟨rb, 1, none⟩), .int .i64 n, .int .u8 s[n].toNat, .int .i64 I, .bool v, .bool v, .bool v] : List Value).getD i undef) j else X j, rfl, HX.out, hT⟩
    refine Owed.next (n := 18) (o := ?ora18) ?hora18 ?hra18 ?hsra18
    case hora18 => rfl
    case hra18 =>
      intro l act w1 hw hl hI K hK
      obtain ⟨X, rfl, hX, hT⟩ := hI
      have h10 : X 10 = .bool true := hX 10 (hw 10 (by kernel_rfl)) (by kernel_rfl)
      have h17 : X 17 = .pointer (some ⟨rb, 0, none⟩) := hX 17 (hw 17 (by kernel_rfl)) (by kernel_rfl)
      have HX := Lib.hid (packsM 18 hX [10, 17] (List.forall_mem_cons.2 ⟨hw 10 (by kernel_rfl), (List.forall_mem_cons.2 ⟨hw 17 (by kernel_rfl), (fun _ h => nomatch h)⟩)⟩))
      clear hX
      rw [h10, h17]
      clear h10 h17
      rw [if_pos (by rfl)]
      go_wp2_with fail
      exact hK.out _ _ ⟨fun j => bif (18 :: [10, 17]).contains j then (fun i => ([.pointer (some ⟨rb, 0, none⟩), .pointer (some ⟨rb, 0, none⟩), .pointer (some ⟨rb, 1, none⟩), .int .i64 n, .pointer (some ⟨rb, 0, none⟩), .pointer (some ⟨rb, 0, none⟩), .pointer (some ⟨rb, 0, none⟩), .string s, .int .i64 s.size, .bool true, .bool true, .string B, .pointer (some ⟨rb, 0, none⟩), .pointer (some ⟨rb, 0, none⟩), .pointer (some ⟨rb, 0, none⟩), .string s, .pointer (some ⟨rb, 0, none⟩), .pointer (some ⟨rb, 0, none⟩), .pointer (some ⟨rb, 1, none⟩), .int .i64 n, .int .u8 s[n].toNat, .int .i64 I, .bool v, .bool v, .bool v] : List Value).getD i undef) j else X j, rfl, HX.out, hT⟩
    refine Owed.next (n := 19) (o := ?ora19) ?hora19 ?hra19 ?hsra19
    case hora19 => rfl
    case hra19 =>
      intro l act w1 hw hl hI K hK
      obtain ⟨X, rfl, hX, hT⟩ := hI
      have h10 : X 10 = .bool true := hX 10 (hw 10 (by kernel_rfl)) (by kernel_rfl)
      have h18 : X 18 = .pointer (some ⟨rb, 1, none⟩) := hX 18 (hw 18 (by kernel_rfl)) (by kernel_rfl)
      have HX := Lib.hid (packsM 19 hX [10, 18] (List.forall_mem_cons.2 ⟨hw 10 (by kernel_rfl), (List.forall_mem_cons.2 ⟨hw 18 (by kernel_rfl), (fun _ h => nomatch h)⟩)⟩))
      clear hX
      have c1 := hT.2.c1
      rw [h10, h18]
      clear h10 h18
      rw [if_pos (by rfl)]
      go_wp2_with fail
      exact hK.out _ _ ⟨fun j => bif (19 :: [10, 18]).contains j then (fun i => ([.pointer (some ⟨rb, 0, none⟩), .pointer (some ⟨rb, 0, none⟩), .pointer (some ⟨rb, 1, none⟩), .int .i64 n, .pointer (some ⟨rb, 0, none⟩), .pointer (some ⟨rb, 0, none⟩), .pointer (some ⟨rb, 0, none⟩), .string s, .int .i64 s.size, .bool true, .bool true, .string B, .pointer (some ⟨rb, 0, none⟩), .pointer (some ⟨rb, 0, none⟩), .pointer (some ⟨rb, 0, none⟩), .string s, .pointer (some ⟨rb, 0, none⟩), .pointer (some ⟨rb, 0, none⟩), .pointer (some ⟨rb, 1, none⟩), .int .i64 n, .int .u8 s[n].toNat, .int .i64 I, .bool v, .bool v, .bool v] : List Value).getD i undef) j else X j, rfl, HX.out, hT⟩
    refine Owed.next (n := 20) (o := ?ora20) ?hora20 ?hra20 ?hsra20
    case hora20 => rfl
    case hra20 =>
      intro l act w1 hw hl hI K hK
      obtain ⟨X, rfl, hX, hT⟩ := hI
      have h10 : X 10 = .bool true := hX 10 (hw 10 (by kernel_rfl)) (by kernel_rfl)
      have h15 : X 15 = .string s := hX 15 (hw 15 (by kernel_rfl)) (by kernel_rfl)
      have h19 : X 19 = .int .i64 n := hX 19 (hw 19 (by kernel_rfl)) (by kernel_rfl)
      have HX := Lib.hid (packsM 20 hX [10, 15, 19] (List.forall_mem_cons.2 ⟨hw 10 (by kernel_rfl), (List.forall_mem_cons.2 ⟨hw 15 (by kernel_rfl), (List.forall_mem_cons.2 ⟨hw 19 (by kernel_rfl), (fun _ h => nomatch h)⟩)⟩)⟩))
      clear hX
      have hn2 := hn2.out
      rw [h10, h15, h19]
      clear h10 h15 h19
      rw [if_pos (by rfl)]
      go_wp2_with fail
      exact hK.out _ _ ⟨fun j => bif (20 :: [10, 15, 19]).contains j then (fun i => ([.pointer (some ⟨rb, 0, none⟩), .pointer (some ⟨rb, 0, none⟩), .pointer (some ⟨rb, 1, none⟩), .int .i64 n, .pointer (some ⟨rb, 0, none⟩), .pointer (some ⟨rb, 0, none⟩), .pointer (some ⟨rb, 0, none⟩), .string s, .int .i64 s.size, .bool true, .bool true, .string B, .pointer (some ⟨rb, 0, none⟩), .pointer (some ⟨rb, 0, none⟩), .pointer (some ⟨rb, 0, none⟩), .string s, .pointer (some ⟨rb, 0, none⟩), .pointer (some ⟨rb, 0, none⟩), .pointer (some ⟨rb, 1, none⟩), .int .i64 n, .int .u8 s[n].toNat, .int .i64 I, .bool v, .bool v, .bool v] : List Value).getD i undef) j else X j, rfl, HX.out, hT⟩
    refine Owed.next (n := 21) (o := ?ora21) ?hora21 ?hra21 ?hsra21
    case hora21 => rfl
    case hra21 =>
      intro l act w1 hw hl hI K hK
      obtain ⟨X, rfl, hX, hT⟩ := hI
      have h10 : X 10 = .bool true := hX 10 (hw 10 (by kernel_rfl)) (by kernel_rfl)
      have h11 : X 11 = .string B := hX 11 (hw 11 (by kernel_rfl)) (by kernel_rfl)
      have h20 : X 20 = .int .u8 s[n].toNat := hX 20 (hw 20 (by kernel_rfl)) (by kernel_rfl)
      have HX := Lib.hid (packsM 21 hX [10, 11, 20] (List.forall_mem_cons.2 ⟨hw 10 (by kernel_rfl), (List.forall_mem_cons.2 ⟨hw 11 (by kernel_rfl), (List.forall_mem_cons.2 ⟨hw 20 (by kernel_rfl), (fun _ h => nomatch h)⟩)⟩)⟩))
      clear hX
      rw [h10, h11, h20]
      clear h10 h11 h20
      rw [if_pos (by rfl)]
      go_wp2_with fail
      refine (hix.out _).mono ?_
      rintro _ w2 ⟨rfl, rfl⟩
      exact hK.out _ _ ⟨fun j => bif (21 :: [10, 11, 20]).contains j then (fun i => ([.pointer (some ⟨rb, 0, none⟩), .pointer (some ⟨rb, 0, none⟩), .pointer (some ⟨rb, 1, none⟩), .int .i64 n, .pointer (some ⟨rb, 0, none⟩), .pointer (some ⟨rb, 0, none⟩), .pointer (some ⟨rb, 0, none⟩), .string s, .int .i64 s.size, .bool true, .bool true, .string B, .pointer (some ⟨rb, 0, none⟩), .pointer (some ⟨rb, 0, none⟩), .pointer (some ⟨rb, 0, none⟩), .string s, .pointer (some ⟨rb, 0, none⟩), .pointer (some ⟨rb, 0, none⟩), .pointer (some ⟨rb, 1, none⟩), .int .i64 n, .int .u8 s[n].toNat, .int .i64 I, .bool v, .bool v, .bool v] : List Value).getD i undef) j else X j, rfl, HX.out, hT⟩
    refine Owed.next (n := 22) (o := ?ora22) ?hora22 ?hra22 ?hsra22
    case hora22 => rfl
    case hra22 =>
      intro l act w1 hw hl hI K hK
      obtain ⟨X, rfl, hX, hT⟩ := hI
      have h10 : X 10 = .bool true := hX 10 (hw 10 (by kernel_rfl)) (by kernel_rfl)
      have h21 : X 21 = .int .i64 I := hX 21 (hw 21 (by kernel_rfl)) (by kernel_rfl)
      have HX := Lib.hid (packsM 22 hX [10, 21] (List.forall_mem_cons.2 ⟨hw 10 (by kernel_rfl), (List.forall_mem_cons.2 ⟨hw 21 (by kernel_rfl), (fun _ h => nomatch h)⟩)⟩))
      clear hX
      have hv := hv2.out
      rw [h10, h21]
      clear h10 h21
      rw [if_pos (by rfl)]
      go_wp2_with fail
      exact hK.out _ _ ⟨fun j => bif (22 :: [10, 21]).contains j then (fun i => ([.pointer (some ⟨rb, 0, none⟩), .pointer (some ⟨rb, 0, none⟩), .pointer (some ⟨rb, 1, none⟩), .int .i64 n, .pointer (some ⟨rb, 0, none⟩), .pointer (some ⟨rb, 0, none⟩), .pointer (some ⟨rb, 0, none⟩), .string s, .int .i64 s.size, .bool true, .bool true, .string B, .pointer (some ⟨rb, 0, none⟩), .pointer (some ⟨rb, 0, none⟩), .pointer (some ⟨rb, 0, none⟩), .string s, .pointer (some ⟨rb, 0, none⟩), .pointer (some ⟨rb, 0, none⟩), .pointer (some ⟨rb, 1, none⟩), .int .i64 n, .int .u8 s[n].toNat, .int .i64 I, .bool v, .bool v, .bool v] : List Value).getD i undef) j else X j, rfl, HX.out, hT⟩
    refine Owed.next (n := 23) (o := ?ora23) ?hora23 ?hra23 ?hsra23
    case hora23 => rfl
    case hra23 =>
      intro l act w1 hw hl hI K hK
      obtain ⟨X, rfl, hX, hT⟩ := hI
      have h10 : X 10 = .bool true := hX 10 (hw 10 (by kernel_rfl)) (by kernel_rfl)
      have h22 : X 22 = .bool v := hX 22 (hw 22 (by kernel_rfl)) (by kernel_rfl)
      have HX := Lib.hid (packsM 23 hX [10, 22] (List.forall_mem_cons.2 ⟨hw 10 (by kernel_rfl), (List.forall_mem_cons.2 ⟨hw 22 (by kernel_rfl), (fun _ h => nomatch h)⟩)⟩))
      clear hX
      rw [h10, h22]
      clear h10 h22
      rw [if_pos (by rfl)]
      go_wp2_with fail
      exact hK.out _ _ ⟨fun j => bif (23 :: [10, 22]).contains j then (fun i => ([.pointer (some ⟨rb, 0, none⟩), .pointer (some ⟨rb, 0, none⟩), .pointer (some ⟨rb, 1, none⟩), .int .i64 n, .pointer (some ⟨rb, 0, none⟩), .pointer (some ⟨rb, 0, none⟩), .pointer (some ⟨rb, 0, none⟩), .string s, .int .i64 s.size, .bool true, .bool true, .string B, .pointer (some ⟨rb, 0, none⟩), .pointer (some ⟨rb, 0, none⟩), .pointer (some ⟨rb, 0, none⟩), .string s, .pointer (some ⟨rb, 0, none⟩), .pointer (some ⟨rb, 0, none⟩), .pointer (some ⟨rb, 1, none⟩), .int .i64 n, .int .u8 s[n].toNat, .int .i64 I, .bool v, .bool v, .bool v] : List Value).getD i undef) j else X j, rfl, HX.out, hT⟩
    refine Owed.next (n := 24) (o := ?ora24) ?hora24 ?hra24 ?hsra24
    case hora24 => rfl
    case hra24 =>
      intro l act w1 hw hl hI K hK
      obtain ⟨X, rfl, hX, hT⟩ := hI
      have h23 : X 23 = .bool v := hX 23 (hw 23 (by kernel_rfl)) (by kernel_rfl)
      have HX := Lib.hid (packsM 24 hX [23] (List.forall_mem_cons.2 ⟨hw 23 (by kernel_rfl), (fun _ h => nomatch h)⟩))
      clear hX
      rw [h23]
      clear h23
      rw [if_pos (by rfl)]
      go_wp2_with fail
      exact hK.out _ _ ⟨fun j => bif (24 :: [23]).contains j then (fun i => ([.pointer (some ⟨rb, 0, none⟩), .pointer (some ⟨rb, 0, none⟩), .pointer (some ⟨rb, 1, none⟩), .int .i64 n, .pointer (some ⟨rb, 0, none⟩), .pointer (some ⟨rb, 0, none⟩), .pointer (some ⟨rb, 0, none⟩), .string s, .int .i64 s.size, .bool true, .bool true, .string B, .pointer (some ⟨rb, 0, none⟩), .pointer (some ⟨rb, 0, none⟩), .pointer (some ⟨rb, 0, none⟩), .string s, .pointer (some ⟨rb, 0, none⟩), .pointer (some ⟨rb, 0, none⟩), .pointer (some ⟨rb, 1, none⟩), .int .i64 n, .int .u8 s[n].toNat, .int .i64 I, .bool v, .bool v, .bool v] : List Value).getD i undef) j else X j, rfl, HX.out, hT⟩
    exact Owed.last rfl
  case finra =>
    intro l act w1 hl hI
    obtain ⟨X, rfl, hX, hT⟩ := hI
    have h0 : X 0 = .pointer (some ⟨rb, 0, none⟩) := hX 0 (hl 0 (by kernel_rfl)) (by kernel_rfl)
    have h1 : X 1 = .pointer (some ⟨rb, 0, none⟩) := hX 1 (hl 1 (by kernel_rfl)) (by kernel_rfl)
    have h2 : X 2 = .pointer (some ⟨rb, 1, none⟩) := hX 2 (hl 2 (by kernel_rfl)) (by kernel_rfl)
    have h3 : X 3 = .int .i64 n := hX 3 (hl 3 (by kernel_rfl)) (by kernel_rfl)
    have h4 : X 4 = .pointer (some ⟨rb, 0, none⟩) := hX 4 (hl 4 (by kernel_rfl)) (by kernel_rfl)
    have h5 : X 5 = .pointer (some ⟨rb, 0, none⟩) := hX 5 (hl 5 (by kernel_rfl)) (by kernel_rfl)
    have h6 : X 6 = .pointer (some ⟨rb, 0, none⟩) := hX 6 (hl 6 (by kernel_rfl)) (by kernel_rfl)
    have h7 : X 7 = .string s := hX 7 (hl 7 (by kernel_rfl)) (by kernel_rfl)
    have h8 : X 8 = .int .i64 s.size := hX 8 (hl 8 (by kernel_rfl)) (by kernel_rfl)
    have h9 : X 9 = .bool true := hX 9 (hl 9 (by kernel_rfl)) (by kernel_rfl)
    have h10 : X 10 = .bool true := hX 10 (hl 10 (by kernel_rfl)) (by kernel_rfl)
    have h11 : X 11 = .string B := hX 11 (hl 11 (by kernel_rfl)) (by kernel_rfl)
    have h12 : X 12 = .pointer (some ⟨rb, 0, none⟩) := hX 12 (hl 12 (by kernel_rfl)) (by kernel_rfl)
    have h13 : X 13 = .pointer (some ⟨rb, 0, none⟩) := hX 13 (hl 13 (by kernel_rfl)) (by kernel_rfl)
    have h14 : X 14 = .pointer (some ⟨rb, 0, none⟩) := hX 14 (hl 14 (by kernel_rfl)) (by kernel_rfl)
    have h15 : X 15 = .string s := hX 15 (hl 15 (by kernel_rfl)) (by kernel_rfl)
    have h16 : X 16 = .pointer (some ⟨rb, 0, none⟩) := hX 16 (hl 16 (by kernel_rfl)) (by kernel_rfl)
    have h17 : X 17 = .pointer (some ⟨rb, 0, none⟩) := hX 17 (hl 17 (by kernel_rfl)) (by kernel_rfl)
    have h18 : X 18 = .pointer (some ⟨rb, 1, none⟩) := hX 18 (hl 18 (by kernel_rfl)) (by kernel_rfl)
    have h19 : X 19 = .int .i64 n := hX 19 (hl 19 (by kernel_rfl)) (by kernel_rfl)
    have h20 : X 20 = .int .u8 s[n].toNat := hX 20 (hl 20 (by kernel_rfl)) (by kernel_rfl)
    have h21 : X 21 = .int .i64 I := hX 21 (hl 21 (by kernel_rfl)) (by kernel_rfl)
    have h22 : X 22 = .bool v := hX 22 (hl 22 (by kernel_rfl)) (by kernel_rfl)
    have h23 : X 23 = .bool v := hX 23 (hl 23 (by kernel_rfl)) (by kernel_rfl)
    have h24 : X 24 = .bool v := hX 24 (hl 24 (by kernel_rfl)) (by kernel_rfl)
    rw [h0, h1, h2, h3, h4, h5, h6, h7, h8, h9, h10, h11, h12, h13, h14, h15, h16, h17, h18, h19, h20, h21, h22, h23, h24]
    clear h0 h1 h2 h3 h4 h5 h6 h7 h8 h9 h10 h11 h12 h13 h14 h15 h16 h17 h18 h19 h20 h21 h22 h23 h24 hX
    go_wp2
    go_ret
    exact ⟨rfl, hT⟩
end Go.Proofs.YtmjojahkbjlcdaaDoor
