/- isSign, special, meant, Byte: one byte at a time. -/
import Derived.Test.YtennflnfjjhgpaaProg
import Derived.Test.YtennflnfjjhgpaaSb
import Derived.Test.YtennflnfjjhgpaaTxt
import Derived.WalkKit
import Derived.WalkLawsBesides
import Derived.WalkSpells
import Derived.Outline
import Derived.Lib.Walk
import Derived.Lib.Hide
import Derived.RegionTactic
import Derived.LoopTactic
import Derived.Below
import Derived.IntWalk
import Derived.Lib.Bytealg
import Derived.Laws.IdiomStrings
namespace Go.Proofs.Ytennflnfjjhgpaa
set_option linter.unusedSimpArgs false
set_option linter.unusedVariables false
open Go.RowKit

set_option maxHeartbeats 1000000 in
theorem index1_any (s : ByteArray) (c : Int) (w : World) :
    Calls Try.prog 50 #[.string s, .int .u8 c] w fun e w' => e = .returned (.int .i64 (Lib.indexByte s.data.toList c.toNat.toUInt8)) ∧ w = w' := by
  go_enter Try.func50, Try.ntmps50
  go_wp2
  rw [run_callFunc_extern Try.func51 (by kernel_rfl) (by kernel_rfl) (by kernel_rfl) (e := Extern.BytealgIndexByte.indexByte) (by kernel_rfl), Lib.run_indexByteString]
  simp only [Result.andThen]
  rw [Oper.upon_value]
  go_wp2
  go_ret
  exact ⟨rfl, rfl⟩
theorem index_any (s : ByteArray) (c : Int) (w : World) :
    Calls Try.prog 49 #[.string s, .int .u8 c] w fun e w' => e = .returned (.int .i64 (Lib.indexByte s.data.toList c.toNat.toUInt8)) ∧ w = w' := by
  go_enter Try.func49, Try.ntmps49
  go_wp2_with (go_at_call 50; refine (index1_any _ _ _).mono ?_; rintro e w' ⟨rfl, rfl⟩)
  go_ret
  exact ⟨rfl, rfl⟩
theorem toU (c : UInt8) : ((c.toNat : Int)).toNat.toUInt8 = c := by simp
theorem sign_index (c : UInt8) : (sp c = true ∧ 0 ≤ Lib.indexByte [92, 91, 93, 94, 45] c) ∨ (sp c = false ∧ Lib.indexByte [92, 91, 93, 94, 45] c = -1) := by
  unfold sp
  by_cases h1 : c = 92
  · subst h1; left; decide
  · by_cases h2 : c = 91
    · subst h2; left; decide
    · by_cases h3 : c = 93
      · subst h3; left; decide
      · by_cases h4 : c = 94
        · subst h4; left; decide
        · by_cases h5 : c = 45
          · subst h5; left; decide
          · right
            have g1 : ((92 : UInt8) == c) = false := by rw [beq_eq_false_iff_ne]; exact fun e => h1 e.symm
            have g2 : ((91 : UInt8) == c) = false := by rw [beq_eq_false_iff_ne]; exact fun e => h2 e.symm
            have g3 : ((93 : UInt8) == c) = false := by rw [beq_eq_false_iff_ne]; exact fun e => h3 e.symm
            have g4 : ((94 : UInt8) == c) = false := by rw [beq_eq_false_iff_ne]; exact fun e => h4 e.symm
            have g5 : ((45 : UInt8) == c) = false := by rw [beq_eq_false_iff_ne]; exact fun e => h5 e.symm
            simp [h1, h2, h3, h4, h5, Lib.indexByte, g1, g2, g3, g4, g5]
set_option maxHeartbeats 1000000 in
theorem isSign_any (c : UInt8) (w : World) :
    Calls Try.prog 46 #[.int .u8 c.toNat] w fun e w' => e = .returned (.bool (sp c)) ∧ w = w' := by
  have hi := Lib.hid (index_any ⟨#[92, 91, 93, 94, 45]⟩ (c.toNat : Int))
  rw [toU] at hi
  rcases sign_index c with ⟨hs, h0⟩ | ⟨hs, h0⟩
  · rw [hs]
    change Hid (∀ w, Calls Try.prog 49 _ w fun e w' => e = .returned (.int .i64 (Lib.indexByte [92, 91, 93, 94, 45] c)) ∧ w = w') at hi
    generalize Lib.indexByte [92, 91, 93, 94, 45] c = r at *
    clear hs
    go_enter Try.func46, Try.ntmps46
    go_wp2_with fail
    refine (hi.out _).mono ?_
    rintro _ _ ⟨rfl, rfl⟩
    go_wp2
    go_ret
    exact ⟨rfl, rfl⟩
  · rw [hs]
    change Hid (∀ w, Calls Try.prog 49 _ w fun e w' => e = .returned (.int .i64 (Lib.indexByte [92, 91, 93, 94, 45] c)) ∧ w = w') at hi
    rw [h0] at hi
    clear hs h0
    go_enter Try.func46, Try.ntmps46
    go_wp2_with fail
    refine (hi.out _).mono ?_
    rintro _ _ ⟨rfl, rfl⟩
    go_wp2
    go_ret
    exact ⟨rfl, rfl⟩
theorem beqU (c : UInt8) (n : Nat) (hn : n < 256) : ((c.toNat : Int) == (n : Int)) = (c == UInt8.ofNat n) := by
  rw [Bool.eq_iff_iff]
  simp only [beq_iff_eq]
  constructor
  · intro h; apply UInt8.toNat_inj.1; rw [UInt8.toNat_ofNat', Nat.mod_eq_of_lt hn]; omega
  · intro h; rw [h, UInt8.toNat_ofNat', Nat.mod_eq_of_lt hn]
set_option maxHeartbeats 1000000 in
theorem special_any (c : UInt8) (w : World) :
    Calls Try.prog 47 #[.int .u8 c.toNat] w fun e w' => e = .returned (.bool (sp c)) ∧ w = w' := by
  have e1 : ((c.toNat : Int) == 92) = (c == 92) := beqU c 92 (by omega)
  have e2 : ((c.toNat : Int) == 91) = (c == 91) := beqU c 91 (by omega)
  have e3 : ((c.toNat : Int) == 93) = (c == 93) := beqU c 93 (by omega)
  have e4 : ((c.toNat : Int) == 94) = (c == 94) := beqU c 94 (by omega)
  have e5 : ((c.toNat : Int) == 45) = (c == 45) := beqU c 45 (by omega)
  unfold sp
  generalize (c == 92) = b1 at e1 ⊢
  generalize (c == 91) = b2 at e2 ⊢
  generalize (c == 93) = b3 at e3 ⊢
  generalize (c == 94) = b4 at e4 ⊢
  generalize (c == 45) = b5 at e5 ⊢
  cases b1
  · cases b2
    · cases b3
      · cases b4
        · go_enter Try.func47, Try.ntmps47
          go_wp2
          go_ret
          exact ⟨by simp, rfl⟩
        · go_enter Try.func47, Try.ntmps47
          go_wp2
          go_ret
          exact ⟨rfl, rfl⟩
      · go_enter Try.func47, Try.ntmps47
        go_wp2
        go_ret
        exact ⟨rfl, rfl⟩
    · go_enter Try.func47, Try.ntmps47
      go_wp2
      go_ret
      exact ⟨rfl, rfl⟩
  · go_enter Try.func47, Try.ntmps47
    go_wp2
    go_ret
    exact ⟨rfl, rfl⟩
def mtB (d : UInt8) : Bool := (mt d).isSome
def mtV (d : UInt8) : UInt8 := if d = 110 then 10 else if d = 116 then 9 else if d = 114 then 13 else d
theorem mt_is (d : UInt8) : mt d = if mtB d then some (mtV d) else none := by
  unfold mtB mtV mt
  by_cases h1 : d = 110
  · simp [h1]
  · by_cases h2 : d = 116
    · simp [h1, h2]
    · by_cases h3 : d = 114
      · simp [h1, h2, h3]
      · cases h4 : sp d <;> simp [h1, h2, h3, h4]
theorem neqU (c : UInt8) (n : Nat) (hn : n < 256) (h : c ≠ UInt8.ofNat n) : ((c.toNat : Int) == (n : Int)) = false := by
  rw [beqU c n hn, beq_eq_false_iff_ne]; exact h
set_option maxHeartbeats 1000000 in
theorem meant_any (d : UInt8) (w : World) :
    Calls Try.prog 48 #[.int .u8 d.toNat] w fun e w' => e = .returned (.tuple #[.int .u8 (mtV d).toNat, .bool (mtB d)]) ∧ w = w' := by
  by_cases h1 : d = 110
  · subst h1
    go_enter Try.func48, Try.ntmps48
    go_wp2
    go_ret2
    exact ⟨rfl, rfl⟩
  · by_cases h2 : d = 116
    · subst h2
      go_enter Try.func48, Try.ntmps48
      go_wp2
      go_ret2
      exact ⟨rfl, rfl⟩
    · by_cases h3 : d = 114
      · subst h3
        go_enter Try.func48, Try.ntmps48
        go_wp2
        go_ret2
        exact ⟨rfl, rfl⟩
      · have e1 : ((d.toNat : Int) == 110) = false := neqU d 110 (by omega) h1
        have e2 : ((d.toNat : Int) == 116) = false := neqU d 116 (by omega) h2
        have e3 : ((d.toNat : Int) == 114) = false := neqU d 114 (by omega) h3
        have v1 : mtV d = d := by simp [mtV, h1, h2, h3]
        have v2 : mtB d = sp d := by cases h4 : sp d <;> simp [mtB, mt, h1, h2, h3, h4]
        rw [v1, v2]
        have hs := Lib.hid (isSign_any d)
        generalize sp d = b at hs ⊢
        clear v1 v2 h1 h2 h3
        go_enter Try.func48, Try.ntmps48
        go_wp2_with fail
        refine (hs.out _).mono ?_
        rintro _ _ ⟨rfl, rfl⟩
        go_wp2
        go_ret2
        exact ⟨rfl, rfl⟩
/-- A string of a list of bytes. -/
abbrev bs (l : List UInt8) : ByteArray := ⟨l.toArray⟩
theorem conv1 (b : Nat) (c : UInt8) (w : World) (h : w.cell? ⟨b, 0, none⟩ = some (.int .u8 c.toNat)) (cap : Nat) :
    (convert 52 9 (.slice (some ⟨b, 0, none⟩) 1 cap)).run Try.prog w = .ok (.string (bs [c])) w :=
  run_convert_bytes_back w 52 9 5 ⟨b, 0, none⟩ cap [c] Try.underlying52 Try.underlying5 Try.underlying9 (fun j hj => by
    have : j = 0 := by simpa using hj
    subst this; exact h)
set_option maxHeartbeats 2000000 in
theorem byte_any (c : UInt8) (w : World) :
    Calls Try.prog 40 #[.int .u8 c.toNat] w fun e w' => e = .returned (.string (bs (wr c))) ∧ Below w.heap.size w w' := by
  by_cases h1 : c = 10
  · subst h1
    go_enter Try.func40, Try.ntmps40
    go_wp2
    go_ret
    exact ⟨rfl, Below.refl _ _⟩
  · by_cases h2 : c = 9
    · subst h2
      go_enter Try.func40, Try.ntmps40
      go_wp2
      go_ret
      exact ⟨rfl, Below.refl _ _⟩
    · by_cases h3 : c = 13
      · subst h3
        go_enter Try.func40, Try.ntmps40
        go_wp2
        go_ret
        exact ⟨rfl, Below.refl _ _⟩
      · have e1 : ((c.toNat : Int) == 10) = false := neqU c 10 (by omega) h1
        have e2 : ((c.toNat : Int) == 9) = false := neqU c 9 (by omega) h2
        have e3 : ((c.toNat : Int) == 13) = false := neqU c 13 (by omega) h3
        have v1 : wr c = if sp c then [92, c] else [c] := by simp [wr, h1, h2, h3]
        have hs := Lib.hid (special_any c)
        have hc : (convert 52 9 (.slice (some ⟨w.heap.size, 0, none⟩) 1 1)).run Try.prog (w.alloc (.cells #[.int .u8 c.toNat] 5)) = .ok (.string (bs [c])) (w.alloc (.cells #[.int .u8 c.toNat] 5)) := conv1 _ c _ (by simp) 1
        rw [v1]
        generalize sp c = b at hs ⊢
        clear v1 h1 h2 h3
        cases b
        · go_enter Try.func40, Try.ntmps40
          go_wp2_with fail
          refine (hs.out _).mono ?_
          rintro _ _ ⟨rfl, rfl⟩
          go_wp2
          go_ret
          exact ⟨rfl, (Below.refl _ _).alloc (Nat.le_refl _) _⟩
        · go_enter Try.func40, Try.ntmps40
          go_wp2_with fail
          refine (hs.out _).mono ?_
          rintro _ _ ⟨rfl, rfl⟩
          go_wp2
          go_ret
          exact ⟨rfl, (Below.refl _ _).alloc (Nat.le_refl _) _⟩
end Go.Proofs.Ytennflnfjjhgpaa
