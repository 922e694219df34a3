/- Print: a byte, a stretch, the whole class. -/
import Derived.Test.YtennflnfjjhgpaaProg
import Derived.Test.YtennflnfjjhgpaaRn
import Derived.WalkKit
import Derived.WalkLawsBesides
import Derived.WalkSpells
import Derived.Outline
import Derived.Lib.Walk
import Derived.Lib.Hide
import Derived.RegionTactic
import Derived.LoopTactic
import Derived.Below
import Derived.IntWalk
namespace Go.Proofs.Ytennflnfjjhgpaa
set_option linter.unusedSimpArgs false
set_option linter.unusedVariables false
open Go.RowKit

/-- What a builder's write does. -/
def Wk (B b : Nat) (l : List UInt8) (w w' : World) : Prop := Bd B b l w' ∧ Below B w w' ∧ Lib.OthersKept 5 (some b) w w'
theorem Wk.trans {B b : Nat} {l m : List UInt8} {w w1 w2 : World} (h : Wk B b l w w1) (k : Wk B b m w1 w2) : Wk B b m w w2 := ⟨k.1, h.2.1.trans k.2.1, h.2.2.trans k.2.2⟩
theorem Wk.refl {B b : Nat} {l : List UInt8} {w : World} (h : Bd B b l w) : Wk B b l w w := ⟨h, Below.refl _ _, Lib.OthersKept.refl _ _ _⟩
theorem Wk.size {B b : Nat} {l : List UInt8} {w w' : World} (h : Wk B b l w w') : w.heap.size ≤ w'.heap.size := h.2.1.size
theorem Wk.byte {B b : Nat} {l : List UInt8} {w0 w : World} (h : Wk B b l w0 w) (k : Nat) (hk : k < 256) (hl : l.length < 1000000) (hBw : B ≤ w.heap.size) :
    Calls Try.prog 29 #[.pointer (some ⟨b, 0, none⟩), .int .u8 k] w fun e w' => e = .returned .nilIface ∧ Wk B b (l ++ [UInt8.ofNat k]) w0 w' := by
  refine (Bd.byte h.1 k hk hl hBw).mono ?_
  rintro e w' ⟨rfl, h1⟩
  exact ⟨rfl, h.trans h1⟩
theorem strCells_bs (t : List UInt8) : Lib.strCells (bs t) = Lib.byteCells t := by simp [Lib.strCells, Lib.byteCells]
theorem byteCells_app (l t : List UInt8) : Lib.byteCells (l ++ t) = Lib.byteCells l ++ Lib.byteCells t := by simp [Lib.byteCells]
theorem Wk.str {B b : Nat} {l : List UInt8} {w0 w : World} (h : Wk B b l w0 w) (t : List UInt8) (hl : l.length + t.length < 1000000) (hBw : B ≤ w.heap.size) :
    Calls Try.prog 45 #[.pointer (some ⟨b, 0, none⟩), .string (bs t)] w fun e w' => e = .returned (.tuple #[.int .i64 (bs t).size, .nilIface]) ∧ Wk B b (l ++ t) w0 w' := by
  refine (Try.Builder_WriteString_k B b (Lib.byteCells l) (bs t) w h.1 (by rw [byteCells_len, bs_size']; omega) hBw).mono ?_
  rintro e w' ⟨rfl, h1, h2, h3⟩
  refine ⟨rfl, h.trans ⟨?_, h2, h3⟩⟩
  unfold Bd
  rw [byteCells_app, ← strCells_bs]
  exact .inr h1
where bs_size' {t : List UInt8} : (bs t).size = t.length := rfl
theorem natbeq (k n : Nat) (h : k ≠ n) : ((k : Int) == (n : Int)) = false := by rw [beq_eq_false_iff_ne]; omega
set_option maxHeartbeats 4000000 in
theorem writeByte_any {B b : Nat} {l : List UInt8} {w0 w : World} (h : Wk B b l w0 w) (k : Nat) (hk : k < 256) (hl : l.length < 900000) (hBw : B ≤ w.heap.size) :
    Calls Try.prog 39 #[.pointer (some ⟨b, 0, none⟩), .int .u8 k] w fun e w' => e = .returned (.tuple #[]) ∧ Wk B b (l ++ wn k) w0 w' := by
  have HW := Lib.hid h
  clear h
  have hsz : Hid (∀ w', Wk B b l w0 w → Wk B b l w0 w' → True) := Lib.hid fun _ _ _ => trivial
  clear hsz
  by_cases h1 : k = 10
  · subst h1
    have hc : Hid _ := Lib.hid (HW.out.str [92, 110] (by simp; omega) hBw)
    rw [show wn 10 = [92, 110] by decide]
    go_enter Try.func39, Try.ntmps39
    go_wp2_with fail
    refine hc.out.mono ?_
    rintro _ w1 ⟨rfl, hk1⟩
    have H1 := Lib.hid hk1
    clear hk1
    go_wp2
    go_end0
    exact ⟨rfl, H1.out⟩
  · by_cases h2 : k = 9
    · subst h2
      have hc : Hid _ := Lib.hid (HW.out.str [92, 116] (by simp; omega) hBw)
      rw [show wn 9 = [92, 116] by decide]
      go_enter Try.func39, Try.ntmps39
      go_wp2_with fail
      refine hc.out.mono ?_
      rintro _ w1 ⟨rfl, hk1⟩
      have H1 := Lib.hid hk1
      clear hk1
      go_wp2
      go_end0
      exact ⟨rfl, H1.out⟩
    · by_cases h3 : k = 13
      · subst h3
        have hc : Hid _ := Lib.hid (HW.out.str [92, 114] (by simp; omega) hBw)
        rw [show wn 13 = [92, 114] by decide]
        go_enter Try.func39, Try.ntmps39
        go_wp2_with fail
        refine hc.out.mono ?_
        rintro _ w1 ⟨rfl, hk1⟩
        have H1 := Lib.hid hk1
        clear hk1
        go_wp2
        go_end0
        exact ⟨rfl, H1.out⟩
      · have e1 : ((k : Int) == 10) = false := natbeq k 10 h1
        have e2 : ((k : Int) == 9) = false := natbeq k 9 h2
        have e3 : ((k : Int) == 13) = false := natbeq k 13 h3
        have hsg := isSign_any (UInt8.ofNat k)
        rw [ofNat_toNat k hk] at hsg
        have HSG := Lib.hid hsg
        clear hsg
        have hw : wn k = if sp (UInt8.ofNat k) then [92, UInt8.ofNat k] else [UInt8.ofNat k] := by
          have g1 : UInt8.ofNat k ≠ 10 := fun e => h1 (by rw [← ofNat_toNat k hk, e]; rfl)
          have g2 : UInt8.ofNat k ≠ 9 := fun e => h2 (by rw [← ofNat_toNat k hk, e]; rfl)
          have g3 : UInt8.ofNat k ≠ 13 := fun e => h3 (by rw [← ofNat_toNat k hk, e]; rfl)
          unfold wn wr
          rw [if_neg g1, if_neg g2, if_neg g3]
        rw [hw]
        clear hw h1 h2 h3
        have h92 : Hid (Calls Try.prog 29 #[.pointer (some ⟨b, 0, none⟩), .int .u8 92] w fun e w' => e = .returned .nilIface ∧ Wk B b (l ++ [92]) w0 w') := Lib.hid (HW.out.byte 92 (by omega) (by omega) hBw)
        have hlast : Hid (∀ w1, Wk B b (l ++ [92]) w0 w1 → B ≤ w1.heap.size → Calls Try.prog 29 #[.pointer (some ⟨b, 0, none⟩), .int .u8 k] w1 fun e w' => e = .returned .nilIface ∧ Wk B b (l ++ [92, UInt8.ofNat k]) w0 w') := Lib.hid fun w1 h1 h2 => by
          have := Wk.byte h1 k hk (by simp; omega) h2
          simpa using this
        have hone : Hid (Calls Try.prog 29 #[.pointer (some ⟨b, 0, none⟩), .int .u8 k] w fun e w' => e = .returned .nilIface ∧ Wk B b (l ++ [UInt8.ofNat k]) w0 w') := Lib.hid (HW.out.byte k hk (by omega) hBw)
        have hgr : Hid (∀ w1, Wk B b (l ++ [92]) w0 w1 → b < w1.heap.size ∧ B ≤ b) := Lib.hid fun w1 h => ⟨h.1.lt, h.1.elim (·.1) (·.1)⟩
        generalize UInt8.ofNat k = c at *
        cases hs : sp c
        · rw [hs] at HSG
          simp only [Bool.false_eq_true, if_false]
          clear hs
          go_enter Try.func39, Try.ntmps39
          go_wp2_with fail
          refine (HSG.out _).mono ?_
          rintro _ _ ⟨rfl, rfl⟩
          go_wp2_with fail
          refine hone.out.mono ?_
          rintro _ w1 ⟨rfl, hk1⟩
          have H1 := Lib.hid hk1
          clear hk1
          go_wp2
          go_end0
          exact ⟨rfl, H1.out⟩
        · rw [hs] at HSG
          simp only [if_true]
          clear hs
          go_enter Try.func39, Try.ntmps39
          go_wp2_with fail
          refine (HSG.out _).mono ?_
          rintro _ _ ⟨rfl, rfl⟩
          go_wp2_with fail
          refine h92.out.mono ?_
          rintro _ w1 ⟨rfl, hk1⟩
          have H1 := Lib.hid hk1
          clear hk1
          go_wp2_with fail
          refine (hlast.out _ H1.out (by have := hgr.out _ H1.out; omega)).mono ?_
          rintro _ w2 ⟨rfl, hk1⟩
          have H2 := Lib.hid hk1
          clear hk1
          go_wp2
          go_end0
          exact ⟨rfl, H2.out⟩
theorem Wk.B {B b : Nat} {l : List UInt8} {w w' : World} (h : Wk B b l w w') : B ≤ w'.heap.size := by
  have h1 := h.1.lt
  have h2 : B ≤ b := h.1.elim (·.1) (·.1)
  omega
theorem Wk.box {B b g : Nat} {l : List UInt8} {w w' : World} {cs : Array Value} (h : Wk B b l w w') (hg : w.heap[g]? = some (.cells cs 63 (0, 0))) (hb : g ≠ b) : w'.heap[g]? = some (.cells cs 63 (0, 0)) :=
  h.2.2 g _ hg (fun e => hb (Option.some.inj e)) (fun c fz e => by simp at e)
theorem Wk.alloc {B b : Nat} {l : List UInt8} {w : World} (h : Bd B b l w) (o : Obj) : Bd B b l (w.alloc o) := h.up ((Below.refl _ _).alloc (Nat.le_refl _) _)

set_option maxHeartbeats 4000000 in
theorem write_any {B b : Nat} {l : List UInt8} {w : World} (h : Bd B b l w) (a c : Nat) (hac : a ≤ c) (hc : c < 256) (hl : l.length < 800000) :
    Calls Try.prog 33 #[.agg #[.int .u8 a, .int .u8 c], .pointer (some ⟨b, 0, none⟩)] w fun e w' => e = .returned (.tuple #[]) ∧ Wk B b (l ++ rt (a, c)) w w' := by
  have hbl := h.lt
  have hBb : B ≤ b := h.elim (·.1) (·.1)
  have H0 : Hid (Wk B b l (w.alloc (.cells #[.int .u8 a, .int .u8 c] 63)) (w.alloc (.cells #[.int .u8 a, .int .u8 c] 63))) := Lib.hid (Wk.refl (Wk.alloc h _))
  have hstep : Hid (∀ m w', Wk B b m (w.alloc (.cells #[.int .u8 a, .int .u8 c] 63)) w' → Wk B b m w w') := Lib.hid fun m w' k => ⟨k.1, ((Below.refl _ _).alloc (by omega) _).trans k.2.1, ((Lib.OthersKept.refl _ _ _).alloc _).trans k.2.2⟩
  have hbox : Hid (∀ m w', Wk B b m (w.alloc (.cells #[.int .u8 a, .int .u8 c] 63)) w' → w'.heap[w.heap.size]? = some (.cells #[.int .u8 a, .int .u8 c] 63 (0, 0))) := Lib.hid fun m w' k => k.box (heap_alloc_last w _) (by omega)
  clear h
  have hla := wn_len a
  have hlc := wn_len c
  go_enter Try.func33, Try.ntmps33
  go_wp2_with fail
  refine (writeByte_any H0.out a (by omega) (by omega) (by simp; omega)).mono ?_
  rintro _ w1 ⟨rfl, hk⟩
  have H1 := Lib.hid hk
  clear hk
  have c0 : w1.cell? ⟨w.heap.size, 0, none⟩ = some (.int .u8 a) := cell_of_row _ _ 0 _ _ _ (hbox.out _ _ H1.out)
  have c1 : w1.cell? ⟨w.heap.size, 1, none⟩ = some (.int .u8 c) := cell_of_row _ _ 1 _ _ _ (hbox.out _ _ H1.out)
  by_cases hq : a = c
  · subst hq
    have hrt : rt (a, a) = wn a := by simp [rt]
    have HR := Lib.hid hrt
    clear hrt
    go_wp2
    exact bodyPost_ret (v := .tuple #[]) (by simp [results, Try.results33]) rfl ⟨rfl, by rw [HR.out]; exact hstep.out _ _ H1.out⟩
  · have e0 : ((a : Int) == (c : Int)) = false := natbeq a c hq
    by_cases h1 : c - a = 1
    · have hrt : rt (a, c) = wn a ++ wn c := by simp [rt, hq, h1]
      have HR := Lib.hid hrt
      have e1 : ¬ (1 : Int) < (c : Int) - (a : Int) := by omega
      clear hq h1 hrt
      go_wp2_with fail
      refine (writeByte_any H1.out c hc (by simp; omega) H1.out.B).mono ?_
      rintro _ w2 ⟨rfl, hk⟩
      have H2 := Lib.hid hk
      clear hk c0 c1
      go_wp2
      go_end0
      exact ⟨rfl, by rw [HR.out, ← List.append_assoc]; exact hstep.out _ _ H2.out⟩
    · have hrt : rt (a, c) = wn a ++ [45] ++ wn c := by simp [rt, hq, h1]
      have HR := Lib.hid hrt
      have e1 : (1 : Int) < (c : Int) - (a : Int) := by omega
      clear hq h1 hrt
      have h45 : Hid (Calls Try.prog 29 #[.pointer (some ⟨b, 0, none⟩), .int .u8 45] w1 fun e w' => e = .returned .nilIface ∧ Wk B b (l ++ wn a ++ [45]) (w.alloc (.cells #[.int .u8 a, .int .u8 c] 63)) w') := Lib.hid (H1.out.byte 45 (by omega) (by simp; omega) H1.out.B)
      go_wp2_with fail
      refine h45.out.mono ?_
      rintro _ w2 ⟨rfl, hk⟩
      have H2 := Lib.hid hk
      clear hk c0 c1
      have c0 : w2.cell? ⟨w.heap.size, 0, none⟩ = some (.int .u8 a) := cell_of_row _ _ 0 _ _ _ (hbox.out _ _ H2.out)
      have c1 : w2.cell? ⟨w.heap.size, 1, none⟩ = some (.int .u8 c) := cell_of_row _ _ 1 _ _ _ (hbox.out _ _ H2.out)
      go_wp2_with fail
      refine (writeByte_any H2.out c hc (by simp; omega) H2.out.B).mono ?_
      rintro _ w3 ⟨rfl, hk⟩
      have H3 := Lib.hid hk
      clear hk c0 c1
      go_wp2
      go_end0
      exact ⟨rfl, by rw [HR.out]; have h9 := hstep.out _ _ H3.out; simpa using h9⟩
end Go.Proofs.Ytennflnfjjhgpaa
