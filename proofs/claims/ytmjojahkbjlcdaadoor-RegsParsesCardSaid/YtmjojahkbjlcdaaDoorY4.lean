/- Texts of package regs, one behind the other. -/
import Derived.Test.YtmjojahkbjlcdaaDoorProg
import Derived.Test.YtmjojahkbjlcdaaDoorY3
import Derived.WalkKit
import Derived.WalkLawsBesides
import Derived.WalkSpells
import Derived.Outline
import Derived.Lib.Walk
import Derived.Lib.Hide
import Derived.RegionTactic
import Derived.LoopTactic
import Derived.Below
import Derived.IntWalk
import Derived.Lib.Bytealg
import Derived.Laws.IdiomStrings
import Derived.Deep.QuietTactic
import Derived.BigQuiet
import Derived.Orders
import Derived.Deep.RegionHeld
section
/- isSign, special, meant, Byte: one byte at a time. -/
namespace Go.Proofs.YtmjojahkbjlcdaaDoor
set_option linter.unusedSimpArgs false
set_option linter.unusedVariables false
set_option maxRecDepth 100000
open Go.RowKit

set_option maxHeartbeats 1000000 in
theorem index1_any (s : ByteArray) (c : Int) (w : World) :
    Calls Tryd.prog 103 #[.string s, .int .u8 c] w fun e w' => e = .returned (.int .i64 (Lib.indexByte s.data.toList c.toNat.toUInt8)) ∧ w = w' := by
  go_enter Tryd.func103, Tryd.ntmps103
  go_wp2
  rw [run_callFunc_extern Tryd.func110 (by kernel_rfl) (by kernel_rfl) (by kernel_rfl) (e := Extern.BytealgIndexByte.indexByte) (by kernel_rfl), Lib.run_indexByteString]
  simp only [Result.andThen]
  rw [Oper.upon_value]
  go_wp2
  go_ret
  exact ⟨rfl, rfl⟩
theorem index_any (s : ByteArray) (c : Int) (w : World) :
    Calls Tryd.prog 92 #[.string s, .int .u8 c] w fun e w' => e = .returned (.int .i64 (Lib.indexByte s.data.toList c.toNat.toUInt8)) ∧ w = w' := by
  go_enter Tryd.func92, Tryd.ntmps92
  go_wp2_with (go_at_call 103; refine (index1_any _ _ _).mono ?_; rintro e w' ⟨rfl, rfl⟩)
  go_ret
  exact ⟨rfl, rfl⟩
theorem toU (c : UInt8) : ((c.toNat : Int)).toNat.toUInt8 = c := by simp
theorem sign_index (c : UInt8) : (sp c = true ∧ 0 ≤ Lib.indexByte [92, 91, 93, 94, 45] c) ∨ (sp c = false ∧ Lib.indexByte [92, 91, 93, 94, 45] c = -1) := by
  unfold sp
  by_cases h1 : c = 92
  · subst h1; left; decide
  · by_cases h2 : c = 91
    · subst h2; left; decide
    · by_cases h3 : c = 93
      · subst h3; left; decide
      · by_cases h4 : c = 94
        · subst h4; left; decide
        · by_cases h5 : c = 45
          · subst h5; left; decide
          · right
            have g1 : ((92 : UInt8) == c) = false := by rw [beq_eq_false_iff_ne]; exact fun e => h1 e.symm
            have g2 : ((91 : UInt8) == c) = false := by rw [beq_eq_false_iff_ne]; exact fun e => h2 e.symm
            have g3 : ((93 : UInt8) == c) = false := by rw [beq_eq_false_iff_ne]; exact fun e => h3 e.symm
            have g4 : ((94 : UInt8) == c) = false := by rw [beq_eq_false_iff_ne]; exact fun e => h4 e.symm
            have g5 : ((45 : UInt8) == c) = false := by rw [beq_eq_false_iff_ne]; exact fun e => h5 e.symm
            simp [h1, h2, h3, h4, h5, Lib.indexByte, g1, g2, g3, g4, g5]
set_option maxHeartbeats 1000000 in
theorem isSign_any (c : UInt8) (w : World) :
    Calls Tryd.prog 111 #[.int .u8 c.toNat] w fun e w' => e = .returned (.bool (sp c)) ∧ w = w' := by
  have hi := Lib.hid (index_any ⟨#[92, 91, 93, 94, 45]⟩ (c.toNat : Int))
  rw [toU] at hi
  rcases sign_index c with ⟨hs, h0⟩ | ⟨hs, h0⟩
  · rw [hs]
    change Hid (∀ w, Calls Tryd.prog 92 _ w fun e w' => e = .returned (.int .i64 (Lib.indexByte [92, 91, 93, 94, 45] c)) ∧ w = w') at hi
    generalize Lib.indexByte [92, 91, 93, 94, 45] c = r at *
    clear hs
    go_enter Tryd.func111, Tryd.ntmps111
    go_wp2_with fail
    refine (hi.out _).mono ?_
    rintro _ _ ⟨rfl, rfl⟩
    go_wp2
    go_ret
    exact ⟨rfl, rfl⟩
  · rw [hs]
    change Hid (∀ w, Calls Tryd.prog 92 _ w fun e w' => e = .returned (.int .i64 (Lib.indexByte [92, 91, 93, 94, 45] c)) ∧ w = w') at hi
    rw [h0] at hi
    clear hs h0
    go_enter Tryd.func111, Tryd.ntmps111
    go_wp2_with fail
    refine (hi.out _).mono ?_
    rintro _ _ ⟨rfl, rfl⟩
    go_wp2
    go_ret
    exact ⟨rfl, rfl⟩
theorem beqU (c : UInt8) (n : Nat) (hn : n < 256) : ((c.toNat : Int) == (n : Int)) = (c == UInt8.ofNat n) := by
  rw [Bool.eq_iff_iff]
  simp only [beq_iff_eq]
  constructor
  · intro h; apply UInt8.toNat_inj.1; rw [UInt8.toNat_ofNat', Nat.mod_eq_of_lt hn]; omega
  · intro h; rw [h, UInt8.toNat_ofNat', Nat.mod_eq_of_lt hn]
set_option maxHeartbeats 1000000 in
theorem special_any (c : UInt8) (w : World) :
    Calls Tryd.prog 109 #[.int .u8 c.toNat] w fun e w' => e = .returned (.bool (sp c)) ∧ w = w' := by
  have e1 : ((c.toNat : Int) == 92) = (c == 92) := beqU c 92 (by omega)
  have e2 : ((c.toNat : Int) == 91) = (c == 91) := beqU c 91 (by omega)
  have e3 : ((c.toNat : Int) == 93) = (c == 93) := beqU c 93 (by omega)
  have e4 : ((c.toNat : Int) == 94) = (c == 94) := beqU c 94 (by omega)
  have e5 : ((c.toNat : Int) == 45) = (c == 45) := beqU c 45 (by omega)
  unfold sp
  generalize (c == 92) = b1 at e1 ⊢
  generalize (c == 91) = b2 at e2 ⊢
  generalize (c == 93) = b3 at e3 ⊢
  generalize (c == 94) = b4 at e4 ⊢
  generalize (c == 45) = b5 at e5 ⊢
  cases b1
  · cases b2
    · cases b3
      · cases b4
        · go_enter Tryd.func109, Tryd.ntmps109
          go_wp2
          go_ret
          exact ⟨by simp, rfl⟩
        · go_enter Tryd.func109, Tryd.ntmps109
          go_wp2
          go_ret
          exact ⟨rfl, rfl⟩
      · go_enter Tryd.func109, Tryd.ntmps109
        go_wp2
        go_ret
        exact ⟨rfl, rfl⟩
    · go_enter Tryd.func109, Tryd.ntmps109
      go_wp2
      go_ret
      exact ⟨rfl, rfl⟩
  · go_enter Tryd.func109, Tryd.ntmps109
    go_wp2
    go_ret
    exact ⟨rfl, rfl⟩
def mtB (d : UInt8) : Bool := (mt d).isSome
def mtV (d : UInt8) : UInt8 := if d = 110 then 10 else if d = 116 then 9 else if d = 114 then 13 else d
theorem mt_is (d : UInt8) : mt d = if mtB d then some (mtV d) else none := by
  unfold mtB mtV mt
  by_cases h1 : d = 110
  · simp [h1]
  · by_cases h2 : d = 116
    · simp [h1, h2]
    · by_cases h3 : d = 114
      · simp [h1, h2, h3]
      · cases h4 : sp d <;> simp [h1, h2, h3, h4]
theorem neqU (c : UInt8) (n : Nat) (hn : n < 256) (h : c ≠ UInt8.ofNat n) : ((c.toNat : Int) == (n : Int)) = false := by
  rw [beqU c n hn, beq_eq_false_iff_ne]; exact h
set_option maxHeartbeats 1000000 in
theorem meant_any (d : UInt8) (w : World) :
    Calls Tryd.prog 120 #[.int .u8 d.toNat] w fun e w' => e = .returned (.tuple #[.int .u8 (mtV d).toNat, .bool (mtB d)]) ∧ w = w' := by
  by_cases h1 : d = 110
  · subst h1
    go_enter Tryd.func120, Tryd.ntmps120
    go_wp2
    go_ret2
    exact ⟨rfl, rfl⟩
  · by_cases h2 : d = 116
    · subst h2
      go_enter Tryd.func120, Tryd.ntmps120
      go_wp2
      go_ret2
      exact ⟨rfl, rfl⟩
    · by_cases h3 : d = 114
      · subst h3
        go_enter Tryd.func120, Tryd.ntmps120
        go_wp2
        go_ret2
        exact ⟨rfl, rfl⟩
      · have e1 : ((d.toNat : Int) == 110) = false := neqU d 110 (by omega) h1
        have e2 : ((d.toNat : Int) == 116) = false := neqU d 116 (by omega) h2
        have e3 : ((d.toNat : Int) == 114) = false := neqU d 114 (by omega) h3
        have v1 : mtV d = d := by simp [mtV, h1, h2, h3]
        have v2 : mtB d = sp d := by cases h4 : sp d <;> simp [mtB, mt, h1, h2, h3, h4]
        rw [v1, v2]
        have hs := Lib.hid (isSign_any d)
        generalize sp d = b at hs ⊢
        clear v1 v2 h1 h2 h3
        go_enter Tryd.func120, Tryd.ntmps120
        go_wp2_with fail
        refine (hs.out _).mono ?_
        rintro _ _ ⟨rfl, rfl⟩
        go_wp2
        go_ret2
        exact ⟨rfl, rfl⟩
/-- A string of a list of bytes. -/
abbrev bs (l : List UInt8) : ByteArray := ⟨l.toArray⟩
theorem conv1 (b : Nat) (c : UInt8) (w : World) (h : w.cell? ⟨b, 0, none⟩ = some (.int .u8 c.toNat)) (cap : Nat) :
    (convert 56 9 (.slice (some ⟨b, 0, none⟩) 1 cap)).run Tryd.prog w = .ok (.string (bs [c])) w :=
  run_convert_bytes_back w 56 9 5 ⟨b, 0, none⟩ cap [c] Tryd.underlying56 Tryd.underlying5 Tryd.underlying9 (fun j hj => by
    have : j = 0 := by simpa using hj
    subst this; exact h)
set_option maxHeartbeats 2000000 in
theorem byte_any (c : UInt8) (w : World) :
    Calls Tryd.prog 105 #[.int .u8 c.toNat] w fun e w' => e = .returned (.string (bs (wr c))) ∧ Below w.heap.size w w' := by
  by_cases h1 : c = 10
  · subst h1
    go_enter Tryd.func105, Tryd.ntmps105
    go_wp2
    go_ret
    exact ⟨rfl, Below.refl _ _⟩
  · by_cases h2 : c = 9
    · subst h2
      go_enter Tryd.func105, Tryd.ntmps105
      go_wp2
      go_ret
      exact ⟨rfl, Below.refl _ _⟩
    · by_cases h3 : c = 13
      · subst h3
        go_enter Tryd.func105, Tryd.ntmps105
        go_wp2
        go_ret
        exact ⟨rfl, Below.refl _ _⟩
      · have e1 : ((c.toNat : Int) == 10) = false := neqU c 10 (by omega) h1
        have e2 : ((c.toNat : Int) == 9) = false := neqU c 9 (by omega) h2
        have e3 : ((c.toNat : Int) == 13) = false := neqU c 13 (by omega) h3
        have v1 : wr c = if sp c then [92, c] else [c] := by simp [wr, h1, h2, h3]
        have hs := Lib.hid (special_any c)
        have hc : (convert 56 9 (.slice (some ⟨w.heap.size, 0, none⟩) 1 1)).run Tryd.prog (w.alloc (.cells #[.int .u8 c.toNat] 5)) = .ok (.string (bs [c])) (w.alloc (.cells #[.int .u8 c.toNat] 5)) := conv1 _ c _ (by simp) 1
        rw [v1]
        generalize sp c = b at hs ⊢
        clear v1 h1 h2 h3
        cases b
        · go_enter Tryd.func105, Tryd.ntmps105
          go_wp2_with fail
          refine (hs.out _).mono ?_
          rintro _ _ ⟨rfl, rfl⟩
          go_wp2
          go_ret
          exact ⟨rfl, (Below.refl _ _).alloc (Nat.le_refl _) _⟩
        · go_enter Tryd.func105, Tryd.ntmps105
          go_wp2_with fail
          refine (hs.out _).mono ?_
          rintro _ _ ⟨rfl, rfl⟩
          go_wp2
          go_ret
          exact ⟨rfl, (Below.refl _ _).alloc (Nat.le_refl _) _⟩
end Go.Proofs.YtmjojahkbjlcdaaDoor
end
section
/- Package regs: the reader's small steps: where it stands, giving up, what comes next. -/
namespace Go.Proofs.YtmjojahkbjlcdaaDoor
set_option linter.unusedSimpArgs false
set_option linter.unusedVariables false
set_option maxRecDepth 100000
open Go.RowKit

/-- The reader of the text s lies at rb, and stands at n. -/
def Gat (rb : Nat) (s : ByteArray) (n : Nat) (w : World) : Prop := w.heap[rb]? = some (.cells #[.string s, .int .i64 n] 50 (0, 0))
/-- What a reader's call does: it makes memory, and writes the reader's own block alone. -/
def Gk (rb : Nat) (s : ByteArray) (n : Nat) (w w' : World) : Prop := w.grownBy w' (some rb) ∧ Gat rb s n w'
theorem Gat.c0 {rb n : Nat} {s : ByteArray} {w : World} (h : Gat rb s n w) : w.cell? ⟨rb, 0, none⟩ = some (.string s) := cell_of_row w rb 0 _ 50 (0, 0) h
theorem Gat.c1 {rb n : Nat} {s : ByteArray} {w : World} (h : Gat rb s n w) : w.cell? ⟨rb, 1, none⟩ = some (.int .i64 n) := cell_of_row w rb 1 _ 50 (0, 0) h
theorem Gat.f {rb n : Nat} {s : ByteArray} {w : World} (h : Gat rb s n w) (i : Nat) : w.frozen? ⟨rb, i, none⟩ = false := frozen_of_row w rb i _ 50 h
theorem Gat.lt {rb n : Nat} {s : ByteArray} {w : World} (h : Gat rb s n w) : rb < w.heap.size := (Array.getElem?_eq_some_iff.1 h).1
theorem Gk.refl {rb n : Nat} {s : ByteArray} {w : World} (h : Gat rb s n w) : Gk rb s n w w := ⟨⟨rfl, rfl, rfl, Nat.le_refl _, fun _ _ _ => rfl⟩, h⟩
theorem Gk.drewN {rb n : Nat} {s : ByteArray} {w : World} (h : Gat rb s n w) (k : Nat) : Gk rb s n w (w.drewN k) := ⟨⟨rfl, rfl, rfl, Nat.le_refl _, fun _ _ _ => rfl⟩, h⟩
theorem Gk.trans {rb n m : Nat} {s : ByteArray} {w w1 w2 : World} (h : Gk rb s n w w1) (k : Gk rb s m w1 w2) : Gk rb s m w w2 :=
  ⟨⟨k.1.os.trans h.1.os, k.1.tape.trans h.1.tape, k.1.output.trans h.1.output, Nat.le_trans h.1.size k.1.size, fun j hj hne => (k.1.block j (Nat.lt_of_lt_of_le hj h.1.size) hne).trans (h.1.block j hj hne)⟩, k.2⟩
theorem Gk.set {rb n : Nat} {s : ByteArray} {w : World} (h : Gat rb s n w) (m : Nat) : Gk rb s m w (w.setCell ⟨rb, 1, none⟩ (.int .i64 m)) := by
  refine ⟨⟨rfl, rfl, rfl, by simp [World.setCell], fun k hk hne => heap_setCell_other w _ k _ (fun e => hne (by rw [e]))⟩, ?_⟩
  unfold Gat
  rw [heap_setCell_same w rb 1 _ 50 _ h]
  rfl
theorem Gk.up {rb n : Nat} {s : ByteArray} {w w' : World} (h : Gat rb s n w) (hb : Below w.heap.size w w') : Gk rb s n w w' :=
  ⟨⟨hb.os, hb.tape, hb.output, hb.size, fun j hj _ => hb.block j hj⟩, (hb.block rb h.lt).trans h⟩
/-- How the reader gives up. -/
def boom : Ending := .panicked [{ v := .iface 30 (.int .i64 50), recovered := false }]

set_option maxHeartbeats 1000000 in
theorem giveUp_any (rb n k : Nat) (s : ByteArray) (w : World) (h : Gat rb s n w) :
    Calls Tryd.prog 48 #[.pointer (some ⟨rb, 0, none⟩), .int .i64 k] w fun e w' => e = boom ∧ Gk rb s k w w' := by
  have hS := Lib.hid (Gk.set h k)
  have c0 := h.c0
  have c1 := h.c1
  have f1 := h.f 1
  have z := h.lt
  clear h
  go_enter Tryd.func48, Tryd.ntmps48
  go_wp2
  exact ⟨rfl, rfl, hS.out⟩

/-- Is one of some bytes ahead? -/
def ah (B : List UInt8) (s : ByteArray) (n : Nat) : Bool := match s.data.toList[n]? with | none => false | some c => B.contains c
theorem idx_neg : ∀ (B : List UInt8) (c : UInt8), B.contains c = false → Lib.indexByte B c = -1
  | [], c, h => by simp [Lib.indexByte]
  | x :: B, c, h => by
    have h1 : (x == c) = false := by rw [beq_eq_false_iff_ne]; rintro rfl; simp at h
    have h2 : B.contains c = false := by
      cases hc : B.contains c with
      | false => rfl
      | true => simp only [List.contains_cons, hc, Bool.or_true] at h; cases h
    have h3 := idx_neg B c h2
    simp [Lib.indexByte, h1, h3]
end Go.Proofs.YtmjojahkbjlcdaaDoor
end
section
/- A region that draws its order, by a relation of which operations have come up: one duty for each operation, none for each order. -/
namespace Go.Proofs.YtmjojahkbjlcdaaDoor
set_option linter.unusedSimpArgs false
set_option linter.unusedVariables false
set_option maxRecDepth 100000
open Go
section
variable {P : Program} {ops : Array Oper} {Q : Exit → Act → World → Prop} {md : Region.Mode}
/-- Those that operation 'i' waits for. -/
def waitsFor (md : Region.Mode) (ops : Array Oper) (i : Nat) : List Nat := ((ops[i]?).map fun o => (o.after.toList.filter (Region.binds md)).map (·.on)).getD []
/-- Each operation waits for earlier ones alone. -/
def rising (md : Region.Mode) (ops : Array Oper) : Bool := (List.range ops.size).all fun i => (waitsFor md ops i).all (fun j => decide (j < i))

theorem count_set : ∀ (L : List Bool) (i : Nat), L[i]? = some false → ((L.set i true).filter (· == false)).length + 1 = (L.filter (· == false)).length
  | [], i, h => by simp at h
  | x :: xs, 0, h => by simp at h; subst h; simp
  | x :: xs, i + 1, h => by
    have := count_set xs i (by simpa using h)
    cases x <;> simp at * <;> omega
theorem all_up (hr : rising md ops = true) {listed : Array Bool} (hs : listed.size = ops.size) (h : Region.ready md ops listed = []) : ∀ j, j < ops.size → listed.getD j false = true := by
  intro j
  induction j using Nat.strongRecOn with
  | ind j ih =>
    intro hj
    cases hv : listed.getD j false with
    | true => rfl
    | false =>
      exfalso
      have hm : j ∈ Region.ready md ops listed := by
        unfold Region.ready
        rw [List.mem_filter]
        refine ⟨List.mem_range.2 hj, ?_⟩
        have e1 : listed.getD j true = false := by
          have hjs : j < listed.size := by omega
          rw [Array.getD_eq_getD_getElem?, Array.getElem?_eq_getElem hjs] at hv ⊢
          exact hv
        rw [e1]
        simp only [Bool.not_false, Bool.true_and]
        rw [Array.getElem?_eq_getElem hj]
        simp only [Option.map_some, Option.getD_some]
        rw [Array.all_eq_true_iff_forall_mem]
        intro e he
        cases hb : Region.binds md e with
        | false => rfl
        | true =>
          have hw : e.on ∈ waitsFor md ops j := by
            unfold waitsFor
            rw [Array.getElem?_eq_getElem hj]
            simp only [Option.map_some, Option.getD_some, List.mem_map, List.mem_filter]
            exact ⟨e, ⟨by simpa using he, hb⟩, rfl⟩
          have hlt : e.on < j := by
            have := (List.all_eq_true.1 hr) j (List.mem_range.2 hj)
            have := (List.all_eq_true.1 this) _ hw
            simpa using this
          simp only [Bool.not_true, Bool.false_or]
          exact ih e.on hlt (by omega)
      rw [h] at hm
      cases hm

theorem wpAny_inv (hr : rising md ops = true) (I : (Nat → Bool) → Act → World → Prop)
    (hstep : ∀ i o, ops[i]? = some o → ∀ (l : Nat → Bool) a w, (∀ j ∈ waitsFor md ops i, l j = true) → l i = false → I l a w →
      ∀ K : Act → World → Prop, Shut (∀ a' w', I (fun j => j == i || l j) a' w' → K a' w') → if Region.wanted o (yielded ops a.tmps) = true then Oper.wp P o a w K Q else K (a.put o.dst undef) w)
    (hfin : ∀ (l : Nat → Bool) a w, (∀ j, j < ops.size → l j = true) → I l a w → Q .normal a w) :
    ∀ (fuel : Nat) (listed : Array Bool) (a : Act) (w : World), listed.size = ops.size → (listed.toList.filter (· == false)).length ≤ fuel →
      I (fun j => listed.getD j false) a w → wpAny P md ops Q fuel listed a w := by
  intro fuel
  induction fuel with
  | zero =>
    intro listed a w hs hf hI
    have hnil : Region.ready md ops listed = [] := by
      cases hc : Region.ready md ops listed with
      | nil => rfl
      | cons i rest =>
        exfalso
        have hi := mem_ready.1 (hc ▸ List.mem_cons_self .. : i ∈ Region.ready md ops listed)
        have h0 := hi.1
        have hlt : i < listed.size := by
          rcases Nat.lt_or_ge i listed.size with h | h
          · exact h
          · rw [Array.getD_eq_getD_getElem?, Array.getElem?_eq_none h] at h0; cases h0
        rw [Array.getD_eq_getD_getElem?, Array.getElem?_eq_getElem hlt] at h0
        have : listed[i] ∈ listed.toList.filter (· == false) := List.mem_filter.2 ⟨by simp, by simpa using h0⟩
        have hl := List.length_pos_of_mem this
        omega
    exact ⟨hnil, hfin _ a w (all_up hr hs hnil) hI⟩
  | succ fuel ih =>
    intro listed a w hs hf hI
    refine ⟨fun hnil => hfin _ a w (all_up hr hs hnil) hI, fun i hi => ?_⟩
    obtain ⟨h0, o, ho, hall⟩ := mem_ready.1 hi
    have hlt : i < listed.size := by
      rcases Nat.lt_or_ge i listed.size with h | h
      · exact h
      · rw [Array.getD_eq_getD_getElem?, Array.getElem?_eq_none h] at h0; cases h0
    have h0' : listed.getD i false = false := by
      rw [Array.getD_eq_getD_getElem?, Array.getElem?_eq_getElem hlt] at h0 ⊢; exact h0
    refine wpOp_step ho (fun K hK => ?_)
    refine hstep i o ho (fun j => listed.getD j false) a w (fun j hj => ?_) h0' hI K (fun a' w' hI' => hK a' w' ?_)
    · unfold waitsFor at hj
      rw [ho] at hj
      simp only [Option.map_some, Option.getD_some, List.mem_map, List.mem_filter] at hj
      obtain ⟨e, ⟨he, hb⟩, rfl⟩ := hj
      exact hall e (by simpa using he) hb
    · refine ih (listed.setIfInBounds i true) a' w' (by simpa using hs) ?_ ?_
      · have hcount : ((listed.setIfInBounds i true).toList.filter (· == false)).length + 1 = (listed.toList.filter (· == false)).length := by
          rw [Array.toList_setIfInBounds]
          have hg : listed.toList[i]? = some false := by
            rw [Array.getElem?_toList, Array.getElem?_eq_getElem hlt]
            rw [Array.getD_eq_getD_getElem?, Array.getElem?_eq_getElem hlt] at h0
            exact congrArg some h0
          exact count_set _ i hg
        omega
      · have : (fun j => (listed.setIfInBounds i true).getD j false) = fun j => j == i || listed.getD j false := by
          funext j
          rw [Array.getD_eq_getD_getElem?, Array.getD_eq_getD_getElem?, Array.getElem?_setIfInBounds]
          by_cases hji : i = j
          · subst hji; simp [hlt]
          · have : (j == i) = false := by simpa using fun h => hji h.symm
            simp [hji, this]
        rw [this]; exact hI'

/-- A region that draws its order: 'I' says what holds once those of 'l' have come up. -/
theorem wp_region_inv {id : Nat} {a : Act} {w : World} (hm : P.follows .mixedOrders = true) (hr : rising .any ops = true) (I : (Nat → Bool) → Act → World → Prop)
    (h0 : I (fun _ => false) a w.drew)
    (hstep : ∀ i o, ops[i]? = some o → ∀ (l : Nat → Bool) a w, (∀ j ∈ waitsFor .any ops i, l j = true) → l i = false → I l a w →
      ∀ K : Act → World → Prop, Shut (∀ a' w', I (fun j => j == i || l j) a' w' → K a' w') → if Region.wanted o (yielded ops a.tmps) = true then Oper.wp P o a w K Q else K (a.put o.dst undef) w)
    (hfin : ∀ (l : Nat → Bool) a w, (∀ j, j < ops.size → l j = true) → I l a w → Q .normal a w) : (Code.region id ops true).wp P Q a w := by
  refine wp_region_any hm (wpAny_inv hr I hstep hfin ops.size (Array.replicate ops.size false) a _ (by simp) ?_ ?_)
  · rw [Array.toList_replicate]
    exact Nat.le_trans (List.length_filter_le _ _) (by simp)
  · have : (fun j => (Array.replicate ops.size false).getD j false) = fun _ => false := by
      funext j
      rw [Array.getD_eq_getD_getElem?, Array.getElem?_replicate]
      split <;> rfl
    rw [this]; exact h0
/-- What number 'i' owes: from a state in which those that it waits for have come up. -/
def Owes (P : Program) (ops : Array Oper) (Q : Exit → Act → World → Prop) (I : (Nat → Bool) → Act → World → Prop) (i : Nat) (o : Oper) : Prop :=
  ∀ (l : Nat → Bool) a w, (∀ j, (waitsFor .any ops i).contains j = true → l j = true) → l i = false → I l a w →
      ∀ K : Act → World → Prop, Shut (∀ a' w', I (fun j => j == i || l j) a' w' → K a' w') → if Region.wanted o (yielded ops a.tmps) = true then Oper.wp P o a w K Q else K (a.put o.dst undef) w
def Owed (P : Program) (ops : Array Oper) (Q : Exit → Act → World → Prop) (I : (Nat → Bool) → Act → World → Prop) (n : Nat) : Prop := ∀ i, n ≤ i → ∀ o, ops[i]? = some o → Owes P ops Q I i o
theorem Owed.last {I : (Nat → Bool) → Act → World → Prop} {n : Nat} (h : ops[n]? = none) : Owed P ops Q I n := fun i hi o ho => by
  exfalso
  have h1 := Array.getElem?_eq_none_iff.1 h
  have h2 := (Array.getElem?_eq_some_iff.1 ho).1
  omega
theorem Owed.next {I : (Nat → Bool) → Act → World → Prop} {n : Nat} {o : Oper} (ho : ops[n]? = some o) (h : Owes P ops Q I n o) (hs : Owed P ops Q I (n + 1)) : Owed P ops Q I n := fun i hi o' ho' => by
  rcases Nat.eq_or_lt_of_le hi with rfl | hlt
  · obtain rfl : o = o' := Option.some.inj (ho.symm.trans ho'); exact h
  · exact hs i hlt o' ho'
/-- The way in. -/
theorem wp_region_owed {id : Nat} {a : Act} {w : World} (I : (Nat → Bool) → Act → World → Prop) (hm : P.follows .mixedOrders = true) (hr : rising .any ops = true)
    (h0 : I (fun _ => false) a w.drew) (hstep : Owed P ops Q I 0)
    (hfin : ∀ (l : Nat → Bool) a w, (∀ j, decide (j < ops.size) = true → l j = true) → I l a w → Q .normal a w) : (Code.region id ops true).wp P Q a w :=
  wp_region_inv hm hr I h0 (fun i o ho l a w hw => hstep i (Nat.zero_le _) o ho l a w (fun j hj => hw j (List.contains_iff_mem.1 hj))) (fun l a w hl => hfin l a w (fun j hj => hl j (by simpa using hj)))
/-- What the operations have yielded, one more known. -/
theorem packs {l : Nat → Bool} {X V : Nat → Value} (i : Nat) (hX : ∀ j, l j = true → X j = V j) (E : List Nat) (hE : ∀ j ∈ E, l j = true) :
    ∀ j, (j == i || l j) = true → (bif (i :: E).contains j then V j else X j) = V j := fun j hj => by
  cases hc : (i :: E).contains j with
  | true => rfl
  | false =>
    have hne : j ≠ i := fun e => by subst e; simp at hc
    have hl : l j = true := by simpa [hne] using hj
    exact hX j hl
/-- The same of those in M alone. -/
theorem packsM {l : Nat → Bool} {X V : Nat → Value} {M : List Nat} (i : Nat) (hX : ∀ j, l j = true → M.contains j = true → X j = V j) (E : List Nat) (hE : ∀ j ∈ E, l j = true) :
    ∀ j, (j == i || l j) = true → M.contains j = true → (bif (i :: E).contains j then V j else X j) = V j := fun j hj hm => by
  cases hc : (i :: E).contains j with
  | true => rfl
  | false =>
    have hne : j ≠ i := fun e => by subst e; simp at hc
    have hl : l j = true := by simpa [hne] using hj
    exact hX j hl hm
/-- One that is not in M has come up, with whatever it has yielded; others become known. -/
theorem packsN {l : Nat → Bool} {X V : Nat → Value} {M : List Nat} (i : Nat) (v : Value) (hX : ∀ j, l j = true → M.contains j = true → X j = V j) (hi : M.contains i = false) (E : List Nat) (hE : ∀ j ∈ E, l j = true) :
    ∀ j, (j == i || l j) = true → M.contains j = true → (bif [i].contains j then v else bif E.contains j then V j else X j) = V j := fun j hj hm => by
  have hne : j ≠ i := fun e => by subst e; rw [hm] at hi; cases hi
  have hl : l j = true := by simpa [hne] using hj
  have h1 : [i].contains j = false := by simp [hne]
  rw [h1]
  cases hc : E.contains j with
  | true => rfl
  | false => exact hX j hl hm
end
end Go.Proofs.YtmjojahkbjlcdaaDoor
end
