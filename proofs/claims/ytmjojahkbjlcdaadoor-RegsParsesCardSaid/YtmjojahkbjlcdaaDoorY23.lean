/- Texts of package regs, one behind the other. -/
import Derived.Test.YtmjojahkbjlcdaaDoorProg
import Derived.Test.YtmjojahkbjlcdaaDoorY3
import Derived.Test.YtmjojahkbjlcdaaDoorY4
import Derived.WalkKit
import Derived.WalkLawsBesides
import Derived.WalkSpells
import Derived.Outline
import Derived.Lib.Walk
import Derived.Lib.Hide
import Derived.RegionTactic
import Derived.LoopTactic
import Derived.Below
import Derived.IntWalk
import Derived.Deep.QuietTactic
import Derived.BigQuiet
import Derived.Test.YtmjojahkbjlcdaaDoorG25
import Derived.Test.YtmjojahkbjlcdaaDoorY13
section
/- Package regs: the reader's small steps: what comes next. -/
namespace Go.Proofs.YtmjojahkbjlcdaaDoor
set_option linter.unusedSimpArgs false
set_option linter.unusedVariables false
set_option maxRecDepth 100000
open Go.RowKit

def checkE (t : RT) : Int := if 512 < sz t then 3 else if 16 < dep t then 51 else if mayB t then 0 else 2
set_option maxHeartbeats 4000000 in
theorem check_any {D : Nat → Prop} {t : RT} {v : Value} {w : World} (hD : ∀ b, D b → b < w.heap.size) (hw : wid t ≤ 9223372036854775806) (h : RV D w t v) :
    Calls Tryd.prog 15 #[v] w fun e w' => e = .returned (.int .i64 (checkE t)) ∧ Below w.heap.size w w' := by
  obtain ⟨k, u, p, n, c, rfl⟩ := h.form2
  have S0 := Lib.hid ((Sb.start w).alloc (.cells #[.int .i64 k, .int .u64 (u 0), .int .u64 (u 1), .int .u64 (u 2), .int .u64 (u 3), .slice p n c] 27))
  have HR := Lib.hid fun w' (hb : Below w.heap.size w w') => (⟨RV.mono (fun b h => h) (fun b hb' hlt => hb.block b hlt) h, fun b hd => Nat.lt_of_lt_of_le (hD b hd) hb.size⟩ : RV D w' t (.agg #[.int .i64 k, .int .u64 (u 0), .int .u64 (u 1), .int .u64 (u 2), .int .u64 (u 3), .slice p n c]) ∧ ∀ b, D b → b < w'.heap.size)
  have hce : checkE t = if 512 < sz t then 3 else if 16 < dep t then 51 else if mayB t then 0 else 2 := rfl
  have HCE := Lib.hid hce
  have hdz := dep_sz t
  have hwz := wid_sz t
  clear h hce
  by_cases h1 : 512 < sz t
  · have hc : checkE t = 3 := by rw [HCE.out, if_pos h1]
    rw [hc]
    have hm : (512 : Int) < ((min (sz t) 513 : Nat) : Int) := by omega
    have HS := Lib.hid fun w' hb => size_any (w := w') (HR.out w' hb).2 hw (HR.out w' hb).1
    generalize (min (sz t) 513 : Nat) = m at *
    go_enter Tryd.func15, Tryd.ntmps15
    go_wp2_with fail
    refine (HS.out _ S0.out.1).mono ?_
    rintro _ w1 ⟨rfl, hb⟩
    have H1 := Lib.hid (S0.out.up hb)
    clear hb
    go_wp2
    go_ret
    exact ⟨rfl, H1.out.1⟩
  · have hm : ¬ (512 : Int) < ((min (sz t) 513 : Nat) : Int) := by omega
    have HS := Lib.hid fun w' hb => size_any (w := w') (HR.out w' hb).2 hw (HR.out w' hb).1
    have HDp := Lib.hid fun w' hb => depth_any (w := w') (dep t) t (Nat.le_refl _) (by omega) (HR.out w' hb).2 (by omega) (HR.out w' hb).1
    have HMy := Lib.hid fun w' hb => may_any (w := w') (dep t) t (Nat.le_refl _) (HR.out w' hb).2 hw (HR.out w' hb).1
    generalize (min (sz t) 513 : Nat) = m at *
    by_cases h2 : 16 < dep t
    · have hc : checkE t = 51 := by rw [HCE.out, if_neg h1, if_pos h2]
      rw [hc]
      have hd : (16 : Int) < ((dep t : Nat) : Int) := by omega
      generalize dep t = d at *
      go_enter Tryd.func15, Tryd.ntmps15
      go_wp2_with fail
      refine (HS.out _ S0.out.1).mono ?_
      rintro _ w1 ⟨rfl, hb⟩
      have H1 := Lib.hid (S0.out.up hb)
      have d0 := H1.out.cell 0; have d1 := H1.out.cell 1; have d2 := H1.out.cell 2; have d3 := H1.out.cell 3; have d4 := H1.out.cell 4; have d5 := H1.out.cell 5
      simp only [List.getElem?_toArray, List.getElem?_cons_zero, List.getElem?_cons_succ] at d0 d1 d2 d3 d4 d5
      clear hb
      go_wp2_with fail
      refine (HDp.out _ H1.out.1).mono ?_
      rintro _ w2 ⟨rfl, hb⟩
      have H2 := Lib.hid (H1.out.up hb)
      clear hb
      go_wp2
      go_ret
      exact ⟨rfl, H2.out.1⟩
    · have hd : ¬ (16 : Int) < ((dep t : Nat) : Int) := by omega
      have hc : checkE t = if mayB t then 0 else 2 := by rw [HCE.out, if_neg h1, if_neg h2]
      rw [hc]
      generalize dep t = d at *
      cases hmy : mayB t
      all_goals
        rw [hmy] at HMy
        clear hmy hc
        go_enter Tryd.func15, Tryd.ntmps15
        go_wp2_with fail
        refine (HS.out _ S0.out.1).mono ?_
        rintro _ w1 ⟨rfl, hb⟩
        have H1 := Lib.hid (S0.out.up hb)
        have d0 := H1.out.cell 0; have d1 := H1.out.cell 1; have d2 := H1.out.cell 2; have d3 := H1.out.cell 3; have d4 := H1.out.cell 4; have d5 := H1.out.cell 5
        simp only [List.getElem?_toArray, List.getElem?_cons_zero, List.getElem?_cons_succ] at d0 d1 d2 d3 d4 d5
        clear hb
        go_wp2_with fail
        refine (HDp.out _ H1.out.1).mono ?_
        rintro _ w2 ⟨rfl, hb⟩
        have H2 := Lib.hid (H1.out.up hb)
        clear d0 d1 d2 d3 d4 d5 hb
        have d0 := H2.out.cell 0; have d1 := H2.out.cell 1; have d2 := H2.out.cell 2; have d3 := H2.out.cell 3; have d4 := H2.out.cell 4; have d5 := H2.out.cell 5
        simp only [List.getElem?_toArray, List.getElem?_cons_zero, List.getElem?_cons_succ] at d0 d1 d2 d3 d4 d5
        go_wp2_with fail
        refine (HMy.out _ H2.out.1).mono ?_
        rintro _ w3 ⟨rfl, hb⟩
        have H3 := Lib.hid (H2.out.up hb)
        clear hb
        go_wp2
        go_ret
        exact ⟨rfl, H3.out.1⟩
end Go.Proofs.YtmjojahkbjlcdaaDoor
end
section
/- Print: a byte, a stretch, the whole class. -/
namespace Go.Proofs.YtmjojahkbjlcdaaDoor
set_option linter.unusedSimpArgs false
set_option linter.unusedVariables false
set_option maxRecDepth 100000
open Go.RowKit

/-- What a builder's write does. -/
def Wk (B b : Nat) (l : List UInt8) (w w' : World) : Prop := Bd B b l w' ∧ Below B w w' ∧ Lib.OthersKept 5 (some b) w w'
theorem Wk.trans {B b : Nat} {l m : List UInt8} {w w1 w2 : World} (h : Wk B b l w w1) (k : Wk B b m w1 w2) : Wk B b m w w2 := ⟨k.1, h.2.1.trans k.2.1, h.2.2.trans k.2.2⟩
theorem Wk.refl {B b : Nat} {l : List UInt8} {w : World} (h : Bd B b l w) : Wk B b l w w := ⟨h, Below.refl _ _, Lib.OthersKept.refl _ _ _⟩
theorem Wk.size {B b : Nat} {l : List UInt8} {w w' : World} (h : Wk B b l w w') : w.heap.size ≤ w'.heap.size := h.2.1.size
theorem Wk.byte {B b : Nat} {l : List UInt8} {w0 w : World} (h : Wk B b l w0 w) (k : Nat) (hk : k < 256) (hl : l.length < 1000000) (hBw : B ≤ w.heap.size) :
    Calls Tryd.prog 53 #[.pointer (some ⟨b, 0, none⟩), .int .u8 k] w fun e w' => e = .returned .nilIface ∧ Wk B b (l ++ [UInt8.ofNat k]) w0 w' := by
  refine (Bd.byte h.1 k hk hl hBw).mono ?_
  rintro e w' ⟨rfl, h1⟩
  exact ⟨rfl, h.trans h1⟩
theorem strCells_bs (t : List UInt8) : Lib.strCells (bs t) = Lib.byteCells t := by simp [Lib.strCells, Lib.byteCells]
theorem byteCells_app (l t : List UInt8) : Lib.byteCells (l ++ t) = Lib.byteCells l ++ Lib.byteCells t := by simp [Lib.byteCells]
theorem Wk.str {B b : Nat} {l : List UInt8} {w0 w : World} (h : Wk B b l w0 w) (t : List UInt8) (hl : l.length + t.length < 1000000) (hBw : B ≤ w.heap.size) :
    Calls Tryd.prog 50 #[.pointer (some ⟨b, 0, none⟩), .string (bs t)] w fun e w' => e = .returned (.tuple #[.int .i64 (bs t).size, .nilIface]) ∧ Wk B b (l ++ t) w0 w' := by
  refine (Tryd.Builder_WriteString_k B b (Lib.byteCells l) (bs t) w h.1 (by rw [byteCells_len, bs_size']; omega) hBw).mono ?_
  rintro e w' ⟨rfl, h1, h2, h3⟩
  refine ⟨rfl, h.trans ⟨?_, h2, h3⟩⟩
  unfold Bd
  rw [byteCells_app, ← strCells_bs]
  exact .inr h1
where bs_size' {t : List UInt8} : (bs t).size = t.length := rfl
theorem natbeq (k n : Nat) (h : k ≠ n) : ((k : Int) == (n : Int)) = false := by rw [beq_eq_false_iff_ne]; omega
set_option maxHeartbeats 4000000 in
theorem writeByte_any {B b : Nat} {l : List UInt8} {w0 w : World} (h : Wk B b l w0 w) (k : Nat) (hk : k < 256) (hl : l.length < 900000) (hBw : B ≤ w.heap.size) :
    Calls Tryd.prog 104 #[.pointer (some ⟨b, 0, none⟩), .int .u8 k] w fun e w' => e = .returned (.tuple #[]) ∧ Wk B b (l ++ wn k) w0 w' := by
  have HW := Lib.hid h
  clear h
  have hsz : Hid (∀ w', Wk B b l w0 w → Wk B b l w0 w' → True) := Lib.hid fun _ _ _ => trivial
  clear hsz
  by_cases h1 : k = 10
  · subst h1
    have hc : Hid _ := Lib.hid (HW.out.str [92, 110] (by simp; omega) hBw)
    rw [show wn 10 = [92, 110] by decide]
    go_enter Tryd.func104, Tryd.ntmps104
    go_wp2_with fail
    refine hc.out.mono ?_
    rintro _ w1 ⟨rfl, hk1⟩
    have H1 := Lib.hid hk1
    clear hk1
    go_wp2
    go_end0
    exact ⟨rfl, H1.out⟩
  · by_cases h2 : k = 9
    · subst h2
      have hc : Hid _ := Lib.hid (HW.out.str [92, 116] (by simp; omega) hBw)
      rw [show wn 9 = [92, 116] by decide]
      go_enter Tryd.func104, Tryd.ntmps104
      go_wp2_with fail
      refine hc.out.mono ?_
      rintro _ w1 ⟨rfl, hk1⟩
      have H1 := Lib.hid hk1
      clear hk1
      go_wp2
      go_end0
      exact ⟨rfl, H1.out⟩
    · by_cases h3 : k = 13
      · subst h3
        have hc : Hid _ := Lib.hid (HW.out.str [92, 114] (by simp; omega) hBw)
        rw [show wn 13 = [92, 114] by decide]
        go_enter Tryd.func104, Tryd.ntmps104
        go_wp2_with fail
        refine hc.out.mono ?_
        rintro _ w1 ⟨rfl, hk1⟩
        have H1 := Lib.hid hk1
        clear hk1
        go_wp2
        go_end0
        exact ⟨rfl, H1.out⟩
      · have e1 : ((k : Int) == 10) = false := natbeq k 10 h1
        have e2 : ((k : Int) == 9) = false := natbeq k 9 h2
        have e3 : ((k : Int) == 13) = false := natbeq k 13 h3
        have hsg := isSign_any (UInt8.ofNat k)
        rw [ofNat_toNat k hk] at hsg
        have HSG := Lib.hid hsg
        clear hsg
        have hw : wn k = if sp (UInt8.ofNat k) then [92, UInt8.ofNat k] else [UInt8.ofNat k] := by
          have g1 : UInt8.ofNat k ≠ 10 := fun e => h1 (by rw [← ofNat_toNat k hk, e]; rfl)
          have g2 : UInt8.ofNat k ≠ 9 := fun e => h2 (by rw [← ofNat_toNat k hk, e]; rfl)
          have g3 : UInt8.ofNat k ≠ 13 := fun e => h3 (by rw [← ofNat_toNat k hk, e]; rfl)
          unfold wn wr
          rw [if_neg g1, if_neg g2, if_neg g3]
        rw [hw]
        clear hw h1 h2 h3
        have h92 : Hid (Calls Tryd.prog 53 #[.pointer (some ⟨b, 0, none⟩), .int .u8 92] w fun e w' => e = .returned .nilIface ∧ Wk B b (l ++ [92]) w0 w') := Lib.hid (HW.out.byte 92 (by omega) (by omega) hBw)
        have hlast : Hid (∀ w1, Wk B b (l ++ [92]) w0 w1 → B ≤ w1.heap.size → Calls Tryd.prog 53 #[.pointer (some ⟨b, 0, none⟩), .int .u8 k] w1 fun e w' => e = .returned .nilIface ∧ Wk B b (l ++ [92, UInt8.ofNat k]) w0 w') := Lib.hid fun w1 h1 h2 => by
          have := Wk.byte h1 k hk (by simp; omega) h2
          simpa using this
        have hone : Hid (Calls Tryd.prog 53 #[.pointer (some ⟨b, 0, none⟩), .int .u8 k] w fun e w' => e = .returned .nilIface ∧ Wk B b (l ++ [UInt8.ofNat k]) w0 w') := Lib.hid (HW.out.byte k hk (by omega) hBw)
        have hgr : Hid (∀ w1, Wk B b (l ++ [92]) w0 w1 → b < w1.heap.size ∧ B ≤ b) := Lib.hid fun w1 h => ⟨h.1.lt, h.1.elim (·.1) (·.1)⟩
        generalize UInt8.ofNat k = c at *
        cases hs : sp c
        · rw [hs] at HSG
          simp only [Bool.false_eq_true, if_false]
          clear hs
          go_enter Tryd.func104, Tryd.ntmps104
          go_wp2_with fail
          refine (HSG.out _).mono ?_
          rintro _ _ ⟨rfl, rfl⟩
          go_wp2_with fail
          refine hone.out.mono ?_
          rintro _ w1 ⟨rfl, hk1⟩
          have H1 := Lib.hid hk1
          clear hk1
          go_wp2
          go_end0
          exact ⟨rfl, H1.out⟩
        · rw [hs] at HSG
          simp only [if_true]
          clear hs
          go_enter Tryd.func104, Tryd.ntmps104
          go_wp2_with fail
          refine (HSG.out _).mono ?_
          rintro _ _ ⟨rfl, rfl⟩
          go_wp2_with fail
          refine h92.out.mono ?_
          rintro _ w1 ⟨rfl, hk1⟩
          have H1 := Lib.hid hk1
          clear hk1
          go_wp2_with fail
          refine (hlast.out _ H1.out (by have := hgr.out _ H1.out; omega)).mono ?_
          rintro _ w2 ⟨rfl, hk1⟩
          have H2 := Lib.hid hk1
          clear hk1
          go_wp2
          go_end0
          exact ⟨rfl, H2.out⟩
theorem Wk.B {B b : Nat} {l : List UInt8} {w w' : World} (h : Wk B b l w w') : B ≤ w'.heap.size := by
  have h1 := h.1.lt
  have h2 : B ≤ b := h.1.elim (·.1) (·.1)
  omega
theorem Wk.box {B b g : Nat} {l : List UInt8} {w w' : World} {cs : Array Value} (h : Wk B b l w w') (hg : w.heap[g]? = some (.cells cs 117 (0, 0))) (hb : g ≠ b) : w'.heap[g]? = some (.cells cs 117 (0, 0)) :=
  h.2.2 g _ hg (fun e => hb (Option.some.inj e)) (fun c fz e => by simp at e)
theorem Wk.alloc {B b : Nat} {l : List UInt8} {w : World} (h : Bd B b l w) (o : Obj) : Bd B b l (w.alloc o) := h.up ((Below.refl _ _).alloc (Nat.le_refl _) _)

set_option maxHeartbeats 4000000 in
theorem write_any {B b : Nat} {l : List UInt8} {w : World} (h : Bd B b l w) (a c : Nat) (hac : a ≤ c) (hc : c < 256) (hl : l.length < 800000) :
    Calls Tryd.prog 96 #[.agg #[.int .u8 a, .int .u8 c], .pointer (some ⟨b, 0, none⟩)] w fun e w' => e = .returned (.tuple #[]) ∧ Wk B b (l ++ rt (a, c)) w w' := by
  have hbl := h.lt
  have hBb : B ≤ b := h.elim (·.1) (·.1)
  have H0 : Hid (Wk B b l (w.alloc (.cells #[.int .u8 a, .int .u8 c] 117)) (w.alloc (.cells #[.int .u8 a, .int .u8 c] 117))) := Lib.hid (Wk.refl (Wk.alloc h _))
  have hstep : Hid (∀ m w', Wk B b m (w.alloc (.cells #[.int .u8 a, .int .u8 c] 117)) w' → Wk B b m w w') := Lib.hid fun m w' k => ⟨k.1, ((Below.refl _ _).alloc (by omega) _).trans k.2.1, ((Lib.OthersKept.refl _ _ _).alloc _).trans k.2.2⟩
  have hbox : Hid (∀ m w', Wk B b m (w.alloc (.cells #[.int .u8 a, .int .u8 c] 117)) w' → w'.heap[w.heap.size]? = some (.cells #[.int .u8 a, .int .u8 c] 117 (0, 0))) := Lib.hid fun m w' k => k.box (heap_alloc_last w _) (by omega)
  clear h
  have hla := wn_len a
  have hlc := wn_len c
  go_enter Tryd.func96, Tryd.ntmps96
  go_wp2_with fail
  refine (writeByte_any H0.out a (by omega) (by omega) (by simp; omega)).mono ?_
  rintro _ w1 ⟨rfl, hk⟩
  have H1 := Lib.hid hk
  clear hk
  have c0 : w1.cell? ⟨w.heap.size, 0, none⟩ = some (.int .u8 a) := cell_of_row _ _ 0 _ _ _ (hbox.out _ _ H1.out)
  have c1 : w1.cell? ⟨w.heap.size, 1, none⟩ = some (.int .u8 c) := cell_of_row _ _ 1 _ _ _ (hbox.out _ _ H1.out)
  by_cases hq : a = c
  · subst hq
    have hrt : rt (a, a) = wn a := by simp [rt]
    have HR := Lib.hid hrt
    clear hrt
    go_wp2
    exact bodyPost_ret (v := .tuple #[]) (by simp [results, Tryd.results96]) rfl ⟨rfl, by rw [HR.out]; exact hstep.out _ _ H1.out⟩
  · have e0 : ((a : Int) == (c : Int)) = false := natbeq a c hq
    by_cases h1 : c - a = 1
    · have hrt : rt (a, c) = wn a ++ wn c := by simp [rt, hq, h1]
      have HR := Lib.hid hrt
      have e1 : ¬ (1 : Int) < (c : Int) - (a : Int) := by omega
      clear hq h1 hrt
      go_wp2_with fail
      refine (writeByte_any H1.out c hc (by simp; omega) H1.out.B).mono ?_
      rintro _ w2 ⟨rfl, hk⟩
      have H2 := Lib.hid hk
      clear hk c0 c1
      go_wp2
      go_end0
      exact ⟨rfl, by rw [HR.out, ← List.append_assoc]; exact hstep.out _ _ H2.out⟩
    · have hrt : rt (a, c) = wn a ++ [45] ++ wn c := by simp [rt, hq, h1]
      have HR := Lib.hid hrt
      have e1 : (1 : Int) < (c : Int) - (a : Int) := by omega
      clear hq h1 hrt
      have h45 : Hid (Calls Tryd.prog 53 #[.pointer (some ⟨b, 0, none⟩), .int .u8 45] w1 fun e w' => e = .returned .nilIface ∧ Wk B b (l ++ wn a ++ [45]) (w.alloc (.cells #[.int .u8 a, .int .u8 c] 117)) w') := Lib.hid (H1.out.byte 45 (by omega) (by simp; omega) H1.out.B)
      go_wp2_with fail
      refine h45.out.mono ?_
      rintro _ w2 ⟨rfl, hk⟩
      have H2 := Lib.hid hk
      clear hk c0 c1
      have c0 : w2.cell? ⟨w.heap.size, 0, none⟩ = some (.int .u8 a) := cell_of_row _ _ 0 _ _ _ (hbox.out _ _ H2.out)
      have c1 : w2.cell? ⟨w.heap.size, 1, none⟩ = some (.int .u8 c) := cell_of_row _ _ 1 _ _ _ (hbox.out _ _ H2.out)
      go_wp2_with fail
      refine (writeByte_any H2.out c hc (by simp; omega) H2.out.B).mono ?_
      rintro _ w3 ⟨rfl, hk⟩
      have H3 := Lib.hid hk
      clear hk c0 c1
      go_wp2
      go_end0
      exact ⟨rfl, by rw [HR.out]; have h9 := hstep.out _ _ H3.out; simpa using h9⟩
end Go.Proofs.YtmjojahkbjlcdaaDoor
end
section
/- Package regs: the reader's small steps: what comes next. -/
namespace Go.Proofs.YtmjojahkbjlcdaaDoor
set_option linter.unusedSimpArgs false
set_option linter.unusedVariables false
set_option maxRecDepth 100000
open Go.RowKit

def encB (k p : Int) : Bool := if k = 4 then p == 4 else (p == 1 || p == 3 || p == 4)
set_option maxHeartbeats 4000000 in
theorem enclosed_any (k p : Int) (w : World) : Calls Tryd.prog 75 #[.int .i64 k, .int .i64 p] w fun e w' => e = .returned (.bool (encB k p)) ∧ w = w' := by
  have hE : Hid (encB k p = if k = 4 then p == 4 else (p == 1 || p == 3 || p == 4)) := Lib.hid rfl
  by_cases hk : k = 4
  · subst hk
    by_cases hp : p = 4
    · subst hp
      go_enter Tryd.func75, Tryd.ntmps75
      go_wp2
      go_ret
      exact ⟨rb (by rw [hE.out]; rfl), rfl⟩
    · have h4 : (p == 4) = false := by rw [beq_eq_false_iff_ne]; exact hp
      go_enter Tryd.func75, Tryd.ntmps75
      go_wp2
      go_ret
      exact ⟨rb (by rw [hE.out]; simp [hp]), rfl⟩
  · have hk4 : (k == 4) = false := by rw [beq_eq_false_iff_ne]; exact hk
    by_cases h1 : p = 1
    · subst h1
      go_enter Tryd.func75, Tryd.ntmps75
      go_wp2
      go_ret
      exact ⟨rb (by rw [hE.out]; simp [hk]), rfl⟩
    · have e1 : (p == 1) = false := by rw [beq_eq_false_iff_ne]; exact h1
      by_cases h3 : p = 3
      · subst h3
        go_enter Tryd.func75, Tryd.ntmps75
        go_wp2
        go_ret
        exact ⟨rb (by rw [hE.out]; simp [hk]), rfl⟩
      · have e3 : (p == 3) = false := by rw [beq_eq_false_iff_ne]; exact h3
        by_cases h4 : p = 4
        · subst h4
          go_enter Tryd.func75, Tryd.ntmps75
          go_wp2
          go_ret
          exact ⟨rb (by rw [hE.out]; simp [hk]), rfl⟩
        · have e4 : (p == 4) = false := by rw [beq_eq_false_iff_ne]; exact h4
          go_enter Tryd.func75, Tryd.ntmps75
          go_wp2
          go_ret
          exact ⟨rb (by rw [hE.out]; simp [hk, h1, h3, h4]), rfl⟩
/-- A byte as an atom. -/
def wrb (c : UInt8) : List UInt8 := if c = 10 then [92, 110] else if c = 9 then [92, 116] else if c = 13 then [92, 114] else if sgs.contains c then [92, c] else [c]
def WB (B b : Nat) (l : List UInt8) (w0 : World) (c : UInt8) : Prop := Hid (∀ w, Wk B b l w0 w → Calls Tryd.prog 53 #[.pointer (some ⟨b, 0, none⟩), .int .u8 c.toNat] w fun e w' => e = .returned .nilIface ∧ Wk B b (l ++ [c]) w0 w')
theorem wb_hid (B b : Nat) (l : List UInt8) (w0 : World) (c : UInt8) (hl : l.length < 1000000) (hB : B ≤ w0.heap.size) : WB B b l w0 c := Lib.hid fun w h => (by
  have := Wk.byte h c.toNat c.toNat_lt hl (Nat.le_trans hB h.size)
  rwa [show UInt8.ofNat c.toNat = c by simp] at this)
set_option maxHeartbeats 4000000 in
theorem wbyte_L {B b : Nat} {l : List UInt8} {w0 w : World} (c x : UInt8) (hc : (c = 10 ∧ x = 110) ∨ (c = 9 ∧ x = 116) ∨ (c = 13 ∧ x = 114)) (h : Wk B b l w0 w) (hl : l.length < 900000) (hBw : B ≤ w0.heap.size) :
    Calls Tryd.prog 72 #[.pointer (some ⟨b, 0, none⟩), .int .u8 c.toNat] w fun e w' => e = .returned (.tuple #[]) ∧ Wk B b (l ++ [92] ++ [x]) w0 w' := by
  have h1 := wb_hid B b l w0 92 (by omega) hBw
  have h2 := wb_hid B b (l ++ [92]) w0 x (by simp; omega) hBw
  have HW := Lib.hid h
  have hix := fun I h => (Lib.hid fun w => (by have := index_any ⟨#[10, 9, 13]⟩ c.toNat w; rw [toU, show Lib.indexByte (⟨#[10, 9, 13]⟩ : ByteArray).data.toList c = I from h] at this; exact this) : Hid (∀ w, Calls Tryd.prog 92 #[.string ⟨#[10, 9, 13]⟩, .int .u8 c.toNat] w fun e w' => e = .returned (.int .i64 I) ∧ w = w'))
  have hI : ∃ I : Int, (I = 0 ∨ I = 1 ∨ I = 2) ∧ Lib.indexByte [10, 9, 13] c = I ∧ (I = 0 → x = 110) ∧ (I = 1 → x = 116) ∧ (I = 2 → x = 114) := by
    rcases hc with ⟨rfl, rfl⟩ | ⟨rfl, rfl⟩ | ⟨rfl, rfl⟩
    · exact ⟨0, .inl rfl, rfl, fun _ => rfl, by decide, by decide⟩
    · exact ⟨1, .inr (.inl rfl), rfl, by decide, fun _ => rfl, by decide⟩
    · exact ⟨2, .inr (.inr rfl), rfl, by decide, by decide, fun _ => rfl⟩
  obtain ⟨I, h3, hI, g0, g1, g2⟩ := hI
  have hix := hix I hI
  clear hI hc h
  rcases h3 with rfl | rfl | rfl
  · obtain rfl := g0 rfl
    clear g0 g1 g2
    go_enter Tryd.func72, Tryd.ntmps72
    go_wp2_with fail
    refine (hix.out _).mono ?_
    rintro _ w3 ⟨rfl, rfl⟩
    go_wp2_with fail
    refine (h1.out _ HW.out).mono ?_
    rintro _ w4 ⟨rfl, hk⟩
    have H4 := Lib.hid hk
    clear hk
    go_wp2_with fail
    refine (h2.out _ H4.out).mono ?_
    rintro _ w5 ⟨rfl, hk⟩
    have H5 := Lib.hid hk
    clear hk
    go_wp2
    go_end0
    exact ⟨rfl, H5.out⟩
  · obtain rfl := g1 rfl
    clear g0 g1 g2
    go_enter Tryd.func72, Tryd.ntmps72
    go_wp2_with fail
    refine (hix.out _).mono ?_
    rintro _ w3 ⟨rfl, rfl⟩
    go_wp2_with fail
    refine (h1.out _ HW.out).mono ?_
    rintro _ w4 ⟨rfl, hk⟩
    have H4 := Lib.hid hk
    clear hk
    go_wp2_with fail
    refine (h2.out _ H4.out).mono ?_
    rintro _ w5 ⟨rfl, hk⟩
    have H5 := Lib.hid hk
    clear hk
    go_wp2
    go_end0
    exact ⟨rfl, H5.out⟩
  · obtain rfl := g2 rfl
    clear g0 g1 g2
    go_enter Tryd.func72, Tryd.ntmps72
    go_wp2_with fail
    refine (hix.out _).mono ?_
    rintro _ w3 ⟨rfl, rfl⟩
    go_wp2_with fail
    refine (h1.out _ HW.out).mono ?_
    rintro _ w4 ⟨rfl, hk⟩
    have H4 := Lib.hid hk
    clear hk
    go_wp2_with fail
    refine (h2.out _ H4.out).mono ?_
    rintro _ w5 ⟨rfl, hk⟩
    have H5 := Lib.hid hk
    clear hk
    go_wp2
    go_end0
    exact ⟨rfl, H5.out⟩
set_option maxHeartbeats 4000000 in
theorem wbyte_O {B b : Nat} {l : List UInt8} {w0 w : World} (c : UInt8) (hc : ([10, 9, 13] : List UInt8).contains c = false) (h : Wk B b l w0 w) (hl : l.length < 900000) (hBw : B ≤ w0.heap.size) :
    Calls Tryd.prog 72 #[.pointer (some ⟨b, 0, none⟩), .int .u8 c.toNat] w fun e w' => e = .returned (.tuple #[]) ∧ Wk B b (if sgs.contains c then l ++ [92] ++ [c] else l ++ [c]) w0 w' := by
  have h1 := wb_hid B b l w0 92 (by omega) hBw
  have h2 := wb_hid B b (l ++ [92]) w0 c (by simp; omega) hBw
  have h3 := wb_hid B b l w0 c (by omega) hBw
  have HW := Lib.hid h
  have hix : Hid (∀ w, Calls Tryd.prog 92 #[.string ⟨#[10, 9, 13]⟩, .int .u8 c.toNat] w fun e w' => e = .returned (.int .i64 (-1)) ∧ w = w') := Lib.hid fun w => by
    have := index_any ⟨#[10, 9, 13]⟩ c.toNat w
    rw [toU, show Lib.indexByte (⟨#[10, 9, 13]⟩ : ByteArray).data.toList c = -1 from idx_neg [10, 9, 13] c hc] at this
    exact this
  have hsg := Lib.hid fun w => sign_any c w
  clear hc h
  cases hv : sgs.contains c with
  | false =>
    rw [hv] at hsg
    clear hv
    go_enter Tryd.func72, Tryd.ntmps72
    go_wp2_with fail
    refine (hix.out _).mono ?_
    rintro _ w3 ⟨rfl, rfl⟩
    go_wp2_with fail
    refine (hsg.out _).mono ?_
    rintro _ w3 ⟨rfl, rfl⟩
    go_wp2_with fail
    refine (h3.out _ HW.out).mono ?_
    rintro _ w4 ⟨rfl, hk⟩
    have H4 := Lib.hid hk
    clear hk
    go_wp2
    go_end0
    exact ⟨rfl, H4.out⟩
  | true =>
    rw [hv] at hsg
    clear hv
    go_enter Tryd.func72, Tryd.ntmps72
    go_wp2_with fail
    refine (hix.out _).mono ?_
    rintro _ w3 ⟨rfl, rfl⟩
    go_wp2_with fail
    refine (hsg.out _).mono ?_
    rintro _ w3 ⟨rfl, rfl⟩
    go_wp2_with fail
    refine (h1.out _ HW.out).mono ?_
    rintro _ w4 ⟨rfl, hk⟩
    have H4 := Lib.hid hk
    clear hk
    go_wp2_with fail
    refine (h2.out _ H4.out).mono ?_
    rintro _ w5 ⟨rfl, hk⟩
    have H5 := Lib.hid hk
    clear hk
    go_wp2
    go_end0
    exact ⟨rfl, by simpa using H5.out⟩
theorem wbyte_any {B b : Nat} {l : List UInt8} {w0 w : World} (c : UInt8) (h : Wk B b l w0 w) (hl : l.length < 900000) (hBw : B ≤ w0.heap.size) :
    Calls Tryd.prog 72 #[.pointer (some ⟨b, 0, none⟩), .int .u8 c.toNat] w fun e w' => e = .returned (.tuple #[]) ∧ Wk B b (l ++ wrb c) w0 w' := by
  unfold wrb
  by_cases h1 : c = 10
  · rw [if_pos h1]; have := wbyte_L c 110 (.inl ⟨h1, rfl⟩) h hl hBw; simpa using this
  · rw [if_neg h1]
    by_cases h2 : c = 9
    · rw [if_pos h2]; have := wbyte_L c 116 (.inr (.inl ⟨h2, rfl⟩)) h hl hBw; simpa using this
    · rw [if_neg h2]
      by_cases h3 : c = 13
      · rw [if_pos h3]; have := wbyte_L c 114 (.inr (.inr ⟨h3, rfl⟩)) h hl hBw; simpa using this
      · rw [if_neg h3]
        have := wbyte_O c (by simp [h1, h2, h3]) h hl hBw
        cases hv : sgs.contains c with
        | false => rw [hv] at this; simpa using this
        | true => rw [hv] at this; simpa using this
end Go.Proofs.YtmjojahkbjlcdaaDoor
end
