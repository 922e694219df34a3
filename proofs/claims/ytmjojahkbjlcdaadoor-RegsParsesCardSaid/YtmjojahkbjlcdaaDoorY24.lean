/- Texts of package regs, one behind the other. -/
import Derived.Test.YtmjojahkbjlcdaaDoorProg
import Derived.Test.YtmjojahkbjlcdaaDoorY23
import Derived.Test.YtmjojahkbjlcdaaDoorY7
import Derived.WalkKit
import Derived.WalkLawsBesides
import Derived.WalkSpells
import Derived.Outline
import Derived.Lib.Walk
import Derived.Lib.Hide
import Derived.RegionTactic
import Derived.LoopTactic
import Derived.Below
import Derived.IntWalk
import Derived.Laws.Pointers
import Derived.Laws.Small
import Derived.Test.YtmjojahkbjlcdaaDoorY3
section
/- Print: the class of a set. -/
namespace Go.Proofs.YtmjojahkbjlcdaaDoor
set_option linter.unusedSimpArgs false
set_option linter.unusedVariables false
set_option maxRecDepth 100000
open Go.RowKit

/-- The row of stretches lies there. -/
def Row (R : List (Nat × Nat)) (v : Value) (w : World) : Prop :=
  (v = .slice none 0 0 ∧ R = []) ∨ ∃ g cap cur, v = .slice (some ⟨g, 0, none⟩) R.length cap ∧ w.heap[g]? = some (.cells cur 117 (0, 0)) ∧ cur.toList.take (R.length * 2) = rc R
theorem own_row {w0 w : World} {R : List (Nat × Nat)} {v : Value} (h : Own w0 R v w) : Row R v w := by
  rcases h.2 with ⟨h1, h2⟩ | ⟨g, cap, cur, h1, _, h3, _, _, _, h4⟩
  · exact .inl ⟨h1, List.eq_nil_of_length_eq_zero h2⟩
  · exact .inr ⟨g, cap, cur, h1, h3, h4⟩
theorem Row.up {R : List (Nat × Nat)} {v : Value} {w w' : World} (h : Row R v w) (hb : Below w.heap.size w w') : Row R v w' := by
  rcases h with h | ⟨g, cap, cur, h1, h2, h3⟩
  · exact .inl h
  · exact .inr ⟨g, cap, cur, h1, (hb.block g (Array.getElem?_eq_some_iff.1 h2).1).trans h2, h3⟩
theorem Row.others {R : List (Nat × Nat)} {v : Value} {w w' : World} {b : Nat} (h : Row R v w) (ho : Lib.OthersKept 5 (some b) w w') (hne : ∀ g cap, v = .slice (some ⟨g, 0, none⟩) R.length cap → g ≠ b) : Row R v w' := by
  rcases h with h | ⟨g, cap, cur, h1, h2, h3⟩
  · exact .inl h
  · exact .inr ⟨g, cap, cur, h1, ho g _ h2 (fun e => hne g cap h1 (Option.some.inj e)) (fun c fz e => by simp at e), h3⟩
theorem rc_at : ∀ (R : List (Nat × Nat)) (k : Nat) (h : k < R.length), (rc R)[k * 2]? = some (.int .u8 (R[k]).1) ∧ (rc R)[k * 2 + 1]? = some (.int .u8 (R[k]).2)
  | [], k, h => by simp at h
  | (a, b) :: r, 0, h => ⟨rfl, rfl⟩
  | (a, b) :: r, k + 1, h => by
    have ih := rc_at r k (by simpa using h)
    have e : rc ((a, b) :: r) = .int .u8 a :: .int .u8 b :: rc r := rfl
    rw [e, show (k + 1) * 2 = k * 2 + 2 by omega]
    simpa using ih
theorem Row.at {R : List (Nat × Nat)} {av : Option Addr} {cap : Nat} {w : World} (h : Row R (.slice av R.length cap) w) (k : Nat) (hk : k < R.length) :
    ∃ g, av = some ⟨g, 0, none⟩ ∧ w.cell? ⟨g, k * 2, none⟩ = some (.int .u8 (R[k]).1) ∧ w.cell? ⟨g, k * 2 + 1, none⟩ = some (.int .u8 (R[k]).2) ∧ g < w.heap.size := by
  rcases h with ⟨_, h⟩ | ⟨g, cap', cur, h1, h2, h3⟩
  · subst h; simp at hk
  · simp only [Value.slice.injEq, true_and] at h1
    have hr := rc_at R k hk
    have key : ∀ j, j < R.length * 2 → cur[j]? = (rc R)[j]? := fun j hj => by
      rw [← h3, List.getElem?_take, if_pos hj]; simp
    refine ⟨g, h1.1, ?_, ?_, (Array.getElem?_eq_some_iff.1 h2).1⟩
    · rw [cell_of_row w g _ cur 117 (0, 0) h2, key _ (by omega)]; exact hr.1
    · rw [cell_of_row w g _ cur 117 (0, 0) h2, key _ (by omega)]; exact hr.2
theorem take_txt (R : List (Nat × Nat)) (k : Nat) (h : k < R.length) : txt (R.take (k + 1)) = txt (R.take k) ++ rt R[k] := by
  rw [List.take_succ_eq_append_getElem h, txt_app, txt_one]
theorem txt_take (R : List (Nat × Nat)) (k : Nat) : (txt (R.take k)).length ≤ (txt R).length := by
  conv => rhs; rw [← List.take_append_drop k R, txt_app]
  simp
theorem Bd.others {B b : Nat} {l : List UInt8} {w0 w w' : World} {L : List (Nat × Obj)} (h : Bd B b l w) (hb : Below w.heap.size w w') : Bd B b l w' := h.up hb

theorem Bd.set {B b : Nat} {l : List UInt8} {w : World} (h : Bd B b l w) (g i : Nat) (v : Value) (hg : g < B) : Bd B b l (w.setCell ⟨g, i, none⟩ v) := by
  have key : ∀ p, Lib.BuilderAtF 58 5 B b p (Lib.byteCells l) w → Lib.BuilderAtF 58 5 B b p (Lib.byteCells l) (w.setCell ⟨g, i, none⟩ v) := by
    rintro p ⟨hB, u, hbk, hown, hne⟩
    refine ⟨hB, u, (heap_setCell_other w _ b v (by simp; omega)).trans hbk, hown.kept (row := some g) ⟨rfl, rfl, rfl, by simp [World.setCell], fun k hk hne => heap_setCell_other w _ k _ (fun e => hne (by rw [e]))⟩ ?_, hne⟩
    cases ho : u.ownBlock with
    | none => exact .inl rfl
    | some k =>
      have := (hown.lt k ho).1
      exact .inr (by simp; omega)
  exact h.elim (fun x => .inl (key _ x)) (fun x => .inr (key _ x))
theorem Bd.set4 {B b : Nat} {l : List UInt8} {w : World} (h : Bd B b l w) (g : Nat) (hg : g < B) (_ : True ∨ g < B) (x0 x1 x2 x3 : Value) :
    Bd B b l ((((w.setCell ⟨g, 0, none⟩ x0).setCell ⟨g, 1, none⟩ x1).setCell ⟨g, 2, none⟩ x2).setCell ⟨g, 3, none⟩ x3) :=
  (((h.set g 0 x0 hg).set g 1 x1 hg).set g 2 x2 hg).set g 3 x3 hg

set_option maxHeartbeats 8000000 in
set_option maxRecDepth 100000 in
theorem print_less (f : Nat → Bool) (w : World) (hc : ¬ 128 < cntF f 256) : Calls Tryd.prog 74 #[setV f] w fun e w' => e = .returned (.string (bs (pr f))) ∧ Below w.heap.size w w' := by
  have hpr : pr f = [91] ++ txt (runsF f 256) ++ [93] := by unfold pr; rw [if_neg hc]
  have S0 := Lib.hid ((Sb.start w).alloc (.cells (wc f) 24))
  have B0 := Lib.hid (Bd.fresh (w.alloc (.cells (wc f) 24)))
  have e1 : (w.alloc (.cells (wc f) 24)).heap.size = w.heap.size + 1 := by simp
  rw [e1] at B0
  clear e1
  have S1 := Lib.hid (S0.out.up ((Below.refl _ _).alloc (Nat.le_refl _) (.cells #[.pointer none, .slice none 0 0] 58)))
  have h91 : Hid (Calls Tryd.prog 53 #[.pointer (some ⟨w.heap.size + 1, 0, none⟩), .int .u8 91] ((w.alloc (.cells (wc f) 24)).alloc (.cells #[.pointer none, .slice none 0 0] 58)) fun e w' => e = .returned .nilIface ∧ Wk (w.heap.size + 1) (w.heap.size + 1) [91] ((w.alloc (.cells (wc f) 24)).alloc (.cells #[.pointer none, .slice none 0 0] 58)) w') := Lib.hid ((Wk.refl B0.out).byte 91 (by omega) (by simp) (by simp))
  have hcn := Lib.hid (count_any f)
  have hcd : ¬ (128 : Int) < ((cntF f 256 : Nat) : Int) := by omega
  generalize cntF f 256 = n at hcn hcd
  clear hc
  go_enter Tryd.func74, Tryd.ntmps74
  go_wp2_with fail
  refine h91.out.mono ?_
  rintro _ w1 ⟨rfl, hk1⟩
  have HS1 := Lib.hid (S1.out.others (hk1.2.1.mono (by omega)) hk1.2.2 (by simp))
  have HB1 := Lib.hid hk1.1
  clear hk1 S0 B0 S1 h91
  have c0 := HS1.out.word 0 (by omega); have c1 := HS1.out.word 1 (by omega); have c2 := HS1.out.word 2 (by omega); have c3 := HS1.out.word 3 (by omega)
  go_wp2_with fail
  refine (hcn.out _).mono ?_
  rintro _ w2 ⟨rfl, hb⟩
  have HS2 := Lib.hid (HS1.out.up hb)
  have HB2 := Lib.hid (HB1.out.up hb)
  clear c0 c1 c2 c3 hb HS1 HB1 hcn
  have HS4 := HS2
  have HB4 := HB2
  clear HS2 HB2
  have c0 := HS4.out.word 0 (by omega); have c1 := HS4.out.word 1 (by omega); have c2 := HS4.out.word 2 (by omega); have c3 := HS4.out.word 3 (by omega)
  go_wp2_with fail
  refine (runs_any f _).mono ?_
  rintro _ w5 ⟨v, rfl, hown, hb⟩
  have HS5 := Lib.hid (HS4.out.up hb)
  have HB5 := Lib.hid (HB4.out.up hb)
  have hle := Lib.hid (runs_le f 256)
  have hcn := runs_count f 256
  have hln := txt_len f 256
  have hcl := cnt_le f 256
  have HPR := Lib.hid hpr
  clear hb hpr
  obtain ⟨R, hR⟩ : ∃ R, runsF f 256 = R := ⟨_, rfl⟩
  rw [hR] at hown hle hcn hln
  have HPR2 := Lib.hid (show pr f = [91] ++ txt R ++ [93] by rw [← hR]; exact HPR.out)
  clear hR HPR
  have hrow := own_row hown
  have hgt : ∀ g cap, v = .slice (some ⟨g, 0, none⟩) R.length cap → w.heap.size + 1 < g := fun g cap hv => by
    have h1 := (World.ownsRow.lt hown g (by rw [hv]; rfl)).1
    have h2 := HB4.out.lt
    omega
  have HG := Lib.hid hgt
  obtain ⟨av, cap, hv⟩ : ∃ av cap, v = .slice av R.length cap := by
    rcases hown.2 with ⟨h1, h2⟩ | ⟨g, cap, cur, h1, _⟩
    · exact ⟨none, 0, by rw [h1, h2]⟩
    · exact ⟨_, _, h1⟩
  subst hv
  have HO5 := Lib.hid hrow
  clear hrow hown hgt HS4 HB4
  go_wp2
  go_loopw [16] (fun i wr => ∃ k : Nat, k ≤ R.length ∧ i = .int .i64 k ∧ Sb w wr [(w.heap.size, .cells (wc f) 24)] ∧ Bd (w.heap.size + 1) (w.heap.size + 1) ([91] ++ txt (R.take k)) wr ∧ Row R (.slice av R.length cap) wr) (fun i _ => R.length - (intOf i).toNat)
  case atStart => exact ⟨0, by omega, rfl, HS5.out, by simpa [txt] using HB5.out, HO5.out⟩
  case round =>
    obtain ⟨k, hk, rfl, hS, hB, hO⟩ := hrel
    have HS := Lib.hid hS
    have HB := Lib.hid hB
    have HO := Lib.hid hO
    clear hS hB hO
    by_cases hlt : k < R.length
    · have hlt' : (k : Int) < (R.length : Int) := by omega
      obtain ⟨g, hav, hc0, hc1, hgl⟩ := HO.out.at k hlt
      subst hav
      have hgb := HG.out g cap rfl
      have hx := hle.out R[k] (List.getElem_mem hlt)
      have ht := take_txt R k hlt
      have HT := Lib.hid ht
      have hlk : (txt (R.take k)).length ≤ (txt R).length := txt_take R k
      obtain ⟨x0, hx0⟩ : ∃ x, (R[k]).1 = x := ⟨_, rfl⟩
      obtain ⟨x1, hx1⟩ : ∃ x, (R[k]).2 = x := ⟨_, rfl⟩
      rw [hx0] at hx hc0
      rw [hx1] at hx hc1
      have hxy := Lib.hid (show R[k] = (x0, x1) by rw [← hx0, ← hx1])
      have hwr := Lib.hid (fun (wz : World) (hz : Bd (w.heap.size + 1) (w.heap.size + 1) ([91] ++ txt (R.take k)) wz) => write_any hz x0 x1 hx.1 hx.2 (by simp; omega))
      clear hx0 hx1 ht
      have hk2 : k * 2 + 1 < 1000 := by omega
      go_wp2_with fail
      refine (hwr.out _ (HB.out.up ((Below.refl _ _).alloc (Nat.le_refl _) _))).mono ?_
      rintro _ w6 ⟨rfl, hk6⟩
      have HS6 := Lib.hid (((HS.out.up ((Below.refl _ _).alloc (Nat.le_refl _) _))).others (hk6.2.1.mono (by omega)) hk6.2.2 (by simp))
      have HO6 := Lib.hid ((HO.out.up ((Below.refl _ _).alloc (Nat.le_refl _) _)).others hk6.2.2 (fun g' cap' hv' => by have := HG.out g' cap' hv'; omega))
      have HB6 := Lib.hid hk6.1
      clear hk6 hc0 hc1
      go_wp2
      go_roundw
      case rel => exact ⟨k + 1, by omega, by go_num, HS6.out, by rw [HT.out, hxy.out]; simpa using HB6.out, HO6.out⟩
      case measure => simp [intOf]; omega
    · obtain rfl : k = R.length := by omega
      rw [List.take_length] at HB
      have h93 : Hid (Calls Tryd.prog 53 #[.pointer (some ⟨w.heap.size + 1, 0, none⟩), .int .u8 93] wr fun e w' => e = .returned .nilIface ∧ Wk (w.heap.size + 1) (w.heap.size + 1) ([91] ++ txt R ++ [93]) wr w') := Lib.hid ((Wk.refl HB.out).byte 93 (by omega) (by simp; omega) (by have := HB.out.lt; omega))
      go_wp2_with fail
      refine h93.out.mono ?_
      rintro _ w6 ⟨rfl, hk6⟩
      have HB6 := Lib.hid hk6.1
      have HE6 := Lib.hid (HS.out.1.trans (hk6.2.1.mono (by omega)))
      rw [← HPR2.out] at HB6
      clear hk6
      go_wp2_with fail
      refine (HB6.out.string (by have := HB6.out.lt; omega)).mono ?_
      rintro _ w7 ⟨rfl, hb⟩
      have HE7 := Lib.hid (HE6.out.trans (hb.mono (by omega)))
      clear hb
      go_wp2
      go_ret
      exact ⟨rfl, HE7.out⟩

set_option maxHeartbeats 8000000 in
set_option maxRecDepth 100000 in
theorem print_more (f : Nat → Bool) (w : World) (hc : 128 < cntF f 256) : Calls Tryd.prog 74 #[setV f] w fun e w' => e = .returned (.string (bs (pr f))) ∧ Below w.heap.size w w' := by
  have hpr : pr f = [91, 94] ++ txt (runsF (noF f) 256) ++ [93] := by unfold pr; rw [if_pos hc]; rfl
  have S0 := Lib.hid ((Sb.start w).alloc (.cells (wc f) 24))
  have B0 := Lib.hid (Bd.fresh (w.alloc (.cells (wc f) 24)))
  have e1 : (w.alloc (.cells (wc f) 24)).heap.size = w.heap.size + 1 := by simp
  rw [e1] at B0
  clear e1
  have S1 := Lib.hid (S0.out.up ((Below.refl _ _).alloc (Nat.le_refl _) (.cells #[.pointer none, .slice none 0 0] 58)))
  have h91 : Hid (Calls Tryd.prog 53 #[.pointer (some ⟨w.heap.size + 1, 0, none⟩), .int .u8 91] ((w.alloc (.cells (wc f) 24)).alloc (.cells #[.pointer none, .slice none 0 0] 58)) fun e w' => e = .returned .nilIface ∧ Wk (w.heap.size + 1) (w.heap.size + 1) [91] ((w.alloc (.cells (wc f) 24)).alloc (.cells #[.pointer none, .slice none 0 0] 58)) w') := Lib.hid ((Wk.refl B0.out).byte 91 (by omega) (by simp) (by simp))
  have hcn := Lib.hid (count_any f)
  have hcd : (128 : Int) < ((cntF f 256 : Nat) : Int) := by omega
  generalize cntF f 256 = n at hcn hcd
  clear hc
  go_enter Tryd.func74, Tryd.ntmps74
  go_wp2_with fail
  refine h91.out.mono ?_
  rintro _ w1 ⟨rfl, hk1⟩
  have HS1 := Lib.hid (S1.out.others (hk1.2.1.mono (by omega)) hk1.2.2 (by simp))
  have HB1 := Lib.hid hk1.1
  clear hk1 S0 B0 S1 h91
  have c0 := HS1.out.word 0 (by omega); have c1 := HS1.out.word 1 (by omega); have c2 := HS1.out.word 2 (by omega); have c3 := HS1.out.word 3 (by omega)
  go_wp2_with fail
  refine (hcn.out _).mono ?_
  rintro _ w2 ⟨rfl, hb⟩
  have HS2 := Lib.hid (HS1.out.up hb)
  have HB2 := Lib.hid (HB1.out.up hb)
  clear c0 c1 c2 c3 hb HS1 HB1 hcn
  have h94 : Hid (Calls Tryd.prog 53 #[.pointer (some ⟨w.heap.size + 1, 0, none⟩), .int .u8 94] w2 fun e w' => e = .returned .nilIface ∧ Wk (w.heap.size + 1) (w.heap.size + 1) [91, 94] w2 w') := Lib.hid ((Wk.refl HB2.out).byte 94 (by omega) (by simp) (by have := HB2.out.lt; omega))
  go_wp2_with fail
  refine h94.out.mono ?_
  rintro _ w3 ⟨rfl, hk1⟩
  have HS3 := Lib.hid (HS2.out.others (hk1.2.1.mono (by omega)) hk1.2.2 (by simp))
  have HB3 := Lib.hid hk1.1
  clear hk1 HS2 HB2 h94
  have c0 := HS3.out.word 0 (by omega); have c1 := HS3.out.word 1 (by omega); have c2 := HS3.out.word 2 (by omega); have c3 := HS3.out.word 3 (by omega)
  go_wp2_with fail
  refine (not_any f _).mono ?_
  rintro _ w3b ⟨rfl, hb⟩
  rw [show (fun b => !f b) = noF f from rfl]
  have HS3b := Lib.hid (HS3.out.up hb)
  have HB3b := Lib.hid (HB3.out.up hb)
  clear c0 c1 c2 c3 hb HS3 HB3
  have c0 := HS3b.out.word 0 (by omega); have c1 := HS3b.out.word 1 (by omega); have c2 := HS3b.out.word 2 (by omega); have c3 := HS3b.out.word 3 (by omega)
  have f0 := HS3b.out.free 0; have f1 := HS3b.out.free 1; have f2 := HS3b.out.free 2; have f3 := HS3b.out.free 3
  have z0 := HS3b.out.lt
  have HS4 := Lib.hid (Sb.set4 HS3b.out (wc_size f) (.int .u64 (W (noF f) 0)) (.int .u64 (W (noF f) 1)) (.int .u64 (W (noF f) 2)) (.int .u64 (W (noF f) 3)) (by simp))
  have HB4 := Lib.hid (Bd.set4 HB3b.out w.heap.size (by omega) (.inl trivial) (.int .u64 (W (noF f) 0)) (.int .u64 (W (noF f) 1)) (.int .u64 (W (noF f) 2)) (.int .u64 (W (noF f) 3)))
  have hsz : Hid _ := HS4
  go_wp2_with fail
  refine (runs_any (noF f) _).mono ?_
  rintro _ w5 ⟨v, rfl, hown, hb⟩
  have HS5 := Lib.hid (HS4.out.up hb)
  have HB5 := Lib.hid (HB4.out.up hb)
  have hle := Lib.hid (runs_le (noF f) 256)
  have hcn := runs_count (noF f) 256
  have hln := txt_len (noF f) 256
  have hcl := cnt_le (noF f) 256
  have HPR := Lib.hid hpr
  clear hb hpr
  obtain ⟨R, hR⟩ : ∃ R, runsF (noF f) 256 = R := ⟨_, rfl⟩
  rw [hR] at hown hle hcn hln
  have HPR2 := Lib.hid (show pr f = [91, 94] ++ txt R ++ [93] by rw [← hR]; exact HPR.out)
  clear hR HPR
  have hrow := own_row hown
  have hgt : ∀ g cap, v = .slice (some ⟨g, 0, none⟩) R.length cap → w.heap.size + 1 < g := fun g cap hv => by
    have h1 := (World.ownsRow.lt hown g (by rw [hv]; rfl)).1
    have h2 := HB4.out.lt
    omega
  have HG := Lib.hid hgt
  obtain ⟨av, cap, hv⟩ : ∃ av cap, v = .slice av R.length cap := by
    rcases hown.2 with ⟨h1, h2⟩ | ⟨g, cap, cur, h1, _⟩
    · exact ⟨none, 0, by rw [h1, h2]⟩
    · exact ⟨_, _, h1⟩
  subst hv
  have HO5 := Lib.hid hrow
  clear hrow hown hgt HS4 HB4
  go_wp2
  go_loopw [16] (fun i wr => ∃ k : Nat, k ≤ R.length ∧ i = .int .i64 k ∧ Sb w wr [(w.heap.size, .cells (wc (noF f)) 24)] ∧ Bd (w.heap.size + 1) (w.heap.size + 1) ([91, 94] ++ txt (R.take k)) wr ∧ Row R (.slice av R.length cap) wr) (fun i _ => R.length - (intOf i).toNat)
  case atStart => exact ⟨0, by omega, rfl, HS5.out, by simpa [txt] using HB5.out, HO5.out⟩
  case round =>
    obtain ⟨k, hk, rfl, hS, hB, hO⟩ := hrel
    have HS := Lib.hid hS
    have HB := Lib.hid hB
    have HO := Lib.hid hO
    clear hS hB hO
    by_cases hlt : k < R.length
    · have hlt' : (k : Int) < (R.length : Int) := by omega
      obtain ⟨g, hav, hc0, hc1, hgl⟩ := HO.out.at k hlt
      subst hav
      have hgb := HG.out g cap rfl
      have hx := hle.out R[k] (List.getElem_mem hlt)
      have ht := take_txt R k hlt
      have HT := Lib.hid ht
      have hlk : (txt (R.take k)).length ≤ (txt R).length := txt_take R k
      obtain ⟨x0, hx0⟩ : ∃ x, (R[k]).1 = x := ⟨_, rfl⟩
      obtain ⟨x1, hx1⟩ : ∃ x, (R[k]).2 = x := ⟨_, rfl⟩
      rw [hx0] at hx hc0
      rw [hx1] at hx hc1
      have hxy := Lib.hid (show R[k] = (x0, x1) by rw [← hx0, ← hx1])
      have hwr := Lib.hid (fun (wz : World) (hz : Bd (w.heap.size + 1) (w.heap.size + 1) ([91, 94] ++ txt (R.take k)) wz) => write_any hz x0 x1 hx.1 hx.2 (by simp; omega))
      clear hx0 hx1 ht
      have hk2 : k * 2 + 1 < 1000 := by omega
      go_wp2_with fail
      refine (hwr.out _ (HB.out.up ((Below.refl _ _).alloc (Nat.le_refl _) _))).mono ?_
      rintro _ w6 ⟨rfl, hk6⟩
      have HS6 := Lib.hid (((HS.out.up ((Below.refl _ _).alloc (Nat.le_refl _) _))).others (hk6.2.1.mono (by omega)) hk6.2.2 (by simp))
      have HO6 := Lib.hid ((HO.out.up ((Below.refl _ _).alloc (Nat.le_refl _) _)).others hk6.2.2 (fun g' cap' hv' => by have := HG.out g' cap' hv'; omega))
      have HB6 := Lib.hid hk6.1
      clear hk6 hc0 hc1
      go_wp2
      go_roundw
      case rel => exact ⟨k + 1, by omega, by go_num, HS6.out, by rw [HT.out, hxy.out]; simpa using HB6.out, HO6.out⟩
      case measure => simp [intOf]; omega
    · obtain rfl : k = R.length := by omega
      rw [List.take_length] at HB
      have h93 : Hid (Calls Tryd.prog 53 #[.pointer (some ⟨w.heap.size + 1, 0, none⟩), .int .u8 93] wr fun e w' => e = .returned .nilIface ∧ Wk (w.heap.size + 1) (w.heap.size + 1) ([91, 94] ++ txt R ++ [93]) wr w') := Lib.hid ((Wk.refl HB.out).byte 93 (by omega) (by simp; omega) (by have := HB.out.lt; omega))
      go_wp2_with fail
      refine h93.out.mono ?_
      rintro _ w6 ⟨rfl, hk6⟩
      have HB6 := Lib.hid hk6.1
      have HE6 := Lib.hid (HS.out.1.trans (hk6.2.1.mono (by omega)))
      rw [← HPR2.out] at HB6
      clear hk6
      go_wp2_with fail
      refine (HB6.out.string (by have := HB6.out.lt; omega)).mono ?_
      rintro _ w7 ⟨rfl, hb⟩
      have HE7 := Lib.hid (HE6.out.trans (hb.mono (by omega)))
      clear hb
      go_wp2
      go_ret
      exact ⟨rfl, HE7.out⟩

theorem print_any (f : Nat → Bool) (w : World) : Calls Tryd.prog 74 #[setV f] w fun e w' => e = .returned (.string (bs (pr f))) ∧ Below w.heap.size w w' := by
  by_cases hc : 128 < cntF f 256
  · exact print_more f w hc
  · exact print_less f w hc
end Go.Proofs.YtmjojahkbjlcdaaDoor
end
section
/- Two sets of the same words are equal. -/
namespace Go.Proofs.YtmjojahkbjlcdaaDoor
theorem eq22 (d : Nat) (x : Int) (w : World) : (Op.equalIn (d + 1) 22 (.int .u64 x) (.int .u64 x)).run Tryd.prog w = .ok true w := by
  simp [Op.equalIn, run_underlying Tryd.underlying22]
theorem eq24 (x0 x1 x2 x3 : Int) (w : World) : (Op.equalIn 10000 24 (.agg #[.int .u64 x0, .int .u64 x1, .int .u64 x2, .int .u64 x3]) (.agg #[.int .u64 x0, .int .u64 x1, .int .u64 x2, .int .u64 x3])).run Tryd.prog w = .ok true w := by
  have h : ∀ (x : Int) w, (Op.equalIn 9999 22 (.int .u64 x) (.int .u64 x)).run Tryd.prog w = .ok true w := fun x w => eq22 9998 x w
  rw [show (10000 : Nat) = 9999 + 1 from rfl, Op.equalIn]
  simp [run_underlying Tryd.underlying24, Tryd.sizeOf22, Std.Legacy.Range.forIn_eq_forIn_range', List.range', part, h]
theorem neq24 (x0 x1 x2 x3 : Int) (w : World) : (binOp .neq 24 (.agg #[.int .u64 x0, .int .u64 x1, .int .u64 x2, .int .u64 x3]) (.agg #[.int .u64 x0, .int .u64 x1, .int .u64 x2, .int .u64 x3])).run Tryd.prog w = .ok (.bool false) w := by
  simp only [binOp]
  simp [Op.equal, Op.maxDepth, eq24]
theorem eql24 (x0 x1 x2 x3 : Int) (w : World) : (binOp .eql 24 (.agg #[.int .u64 x0, .int .u64 x1, .int .u64 x2, .int .u64 x3]) (.agg #[.int .u64 x0, .int .u64 x1, .int .u64 x2, .int .u64 x3])).run Tryd.prog w = .ok (.bool true) w := by
  simp only [binOp]
  simp [Op.equal, Op.maxDepth, eq24]
end Go.Proofs.YtmjojahkbjlcdaaDoor
end
section
/- An equality of two sets, as an operation; sums of it. -/
namespace Go.Proofs.YtmjojahkbjlcdaaDoor
set_option linter.unusedSimpArgs false
set_option linter.unusedVariables false
set_option maxRecDepth 100000
open Go.RowKit
theorem wp_eql24 {o : Oper} {a : Act} {w : World} {K : Act → World → Prop} {Q : Exit → Act → World → Prop} (x y : Operand) (t : TypeId) (ho : o.op = .binOp .eql 24 x y t) (x0 x1 x2 x3 : Int)
    (hx : a.eval x = .agg #[.int .u64 x0, .int .u64 x1, .int .u64 x2, .int .u64 x3]) (hy : a.eval y = .agg #[.int .u64 x0, .int .u64 x1, .int .u64 x2, .int .u64 x3]) (h : K (a.put o.dst (.bool true)) w) : o.wp Tryd.prog a w K Q := by
  unfold Oper.wp execOp
  simp only [ho, hx, hy]
  have hq : (binOp .eql 24 ((.agg #[.int .u64 x0, .int .u64 x1, .int .u64 x2, .int .u64 x3] : Value)) ((.agg #[.int .u64 x0, .int .u64 x1, .int .u64 x2, .int .u64 x3] : Value))).run Tryd.prog w = .ok (.bool true) w := eql24 x0 x1 x2 x3 w
  have hg : (eqGuard .eql 24 x y ((.agg #[.int .u64 x0, .int .u64 x1, .int .u64 x2, .int .u64 x3] : Value)) ((.agg #[.int .u64 x0, .int .u64 x1, .int .u64 x2, .int .u64 x3] : Value))).run Tryd.prog w = .ok () w := by
    unfold eqGuard
    simp [run_underlying Tryd.underlying24]
  generalize hv : (.agg #[.int .u64 x0, .int .u64 x1, .int .u64 x2, .int .u64 x3] : Value) = v at hq hg ⊢
  simp only [Sem.run_bind, hg, Result.andThen_ok, hq]
  exact h
theorem wp_neq24 {o : Oper} {a : Act} {w : World} {K : Act → World → Prop} {Q : Exit → Act → World → Prop} (x y : Operand) (t : TypeId) (ho : o.op = .binOp .neq 24 x y t) (x0 x1 x2 x3 : Int)
    (hx : a.eval x = .agg #[.int .u64 x0, .int .u64 x1, .int .u64 x2, .int .u64 x3]) (hy : a.eval y = .agg #[.int .u64 x0, .int .u64 x1, .int .u64 x2, .int .u64 x3]) (h : K (a.put o.dst (.bool false)) w) : o.wp Tryd.prog a w K Q := by
  unfold Oper.wp execOp
  simp only [ho, hx, hy]
  have hq : (binOp .neq 24 ((.agg #[.int .u64 x0, .int .u64 x1, .int .u64 x2, .int .u64 x3] : Value)) ((.agg #[.int .u64 x0, .int .u64 x1, .int .u64 x2, .int .u64 x3] : Value))).run Tryd.prog w = .ok (.bool false) w := neq24 x0 x1 x2 x3 w
  have hg : (eqGuard .neq 24 x y ((.agg #[.int .u64 x0, .int .u64 x1, .int .u64 x2, .int .u64 x3] : Value)) ((.agg #[.int .u64 x0, .int .u64 x1, .int .u64 x2, .int .u64 x3] : Value))).run Tryd.prog w = .ok () w := by
    unfold eqGuard
    simp [run_underlying Tryd.underlying24]
  generalize hv : (.agg #[.int .u64 x0, .int .u64 x1, .int .u64 x2, .int .u64 x3] : Value) = v at hq hg ⊢
  simp only [Sem.run_bind, hg, Result.andThen_ok, hq]
  exact h
end Go.Proofs.YtmjojahkbjlcdaaDoor
end
