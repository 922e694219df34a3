/- Package regs: the reader's small steps: what comes next. -/
import Derived.Test.YthglciccejholaaDoorProg
import Derived.Test.YthglciccejholaaDoorV16
import Derived.Test.YthglciccejholaaDoorV9
import Derived.WalkKit
import Derived.WalkLawsBesides
import Derived.WalkSpells
import Derived.Outline
import Derived.Lib.Walk
import Derived.Lib.Hide
import Derived.RegionTactic
import Derived.LoopTactic
import Derived.Below
import Derived.IntWalk
import Derived.Deep.QuietTactic
import Derived.BigQuiet
import Derived.Deep.Cut
import Derived.Deep.CutRange
namespace Go.Proofs.YthglciccejholaaDoor.R5
set_option linter.unusedSimpArgs false
set_option linter.unusedVariables false
set_option maxRecDepth 100000
open Go.RowKit

theorem Tb.mono {w w' : World} (h : Tb w) (e : w'.heap[0]? = w.heap[0]?) : Tb w' := fun j hj => by
  rw [← h j hj]; simp only [World.cell?, e]
/-- In next: the spots asked for, the answer, what has come of them. -/
def NX (b A : Nat) (N : Net) (S l : Nat → Bool) (w0 w : World) : Prop := Nk b N w0 w ∧ w.heap[A]? = some (.cells (spL S).toArray 90 (0, 0)) ∧ w.heap[A + 1]? = some (.cells (spL noS).toArray 90 (0, 0)) ∧ w.heap[A + 1 + 1]? = some (.cells (spL l).toArray 90 (0, 0))
theorem NX.up {b A : Nat} {N : Net} {S l : Nat → Bool} {w0 w w' : World} (h : NX b A N S l w0 w) (hb : Below w.heap.size w w') : NX b A N S l w0 w' :=
  ⟨h.1.up hb, (hb.block _ (Array.getElem?_eq_some_iff.1 h.2.1).1).trans h.2.1, (hb.block _ (Array.getElem?_eq_some_iff.1 h.2.2.1).1).trans h.2.2.1, (hb.block _ (Array.getElem?_eq_some_iff.1 h.2.2.2).1).trans h.2.2.2⟩
theorem NX.drew {b A : Nat} {N : Net} {S l : Nat → Bool} {w0 w : World} (h : NX b A N S l w0 w) : NX b A N S l w0 w.drew := ⟨h.1.drew, h.2⟩
theorem NX.tb {b A : Nat} {N : Net} {S l : Nat → Bool} {w0 w : World} (h : NX b A N S l w0 w) (hb0 : 0 < b) (hb : b < w0.heap.size) (hT : Tb w0) : Tb w := hT.mono (h.1.2.2 0 (by omega) (by omega))
theorem row8_there {w : World} {b : Nat} {f : Nat → Bool} (h : w.heap[b]? = some (.cells (spL f).toArray 90 (0, 0))) : w.there b 0 8 := fun j hj => ⟨by rw [Nat.zero_add, row8_at h j hj]; rfl, frozen_of_row w b _ _ 90 h⟩
theorem putA_row (f g : Nat → Bool) : putA (spL f).toArray 0 (spL g) = (spL g).toArray := by simp [putA, spL]
theorem NX.set {b A : Nat} {N : Net} {S l l' : Nat → Bool} {w0 w : World} (h : NX b A N S l w0 w) (hb : b < w0.heap.size) (hA : A = w0.heap.size) : NX b A N S l' w0 (w.setCells (A + 1 + 1) 0 (spL l')) :=
  ⟨h.1.set hb (by omega) _, (setCells_other (by omega) _ _ _).trans h.2.1, (setCells_other (by omega) _ _ _).trans h.2.2.1, (setCells_heap _ 0 _ _ h.2.2.2).trans (by rw [putA_row])⟩
theorem load_row {w : World} {b : Nat} {f : Nat → Bool} (h : w.heap[b]? = some (.cells (spL f).toArray 90 (0, 0))) : (loadVar 90 ⟨b, 0, none⟩).run Tryd.prog w = .ok (spV (wf f)) w :=
  run_loadVar_mid (P := Tryd.prog) w b 0 90 (spL f) _ (row8_range h) Tryd.underlying90 rfl (by kernel_rfl)
theorem dn_zero (k : Nat) (S : Nat → Bool) (i : Nat) (hS : S i = true) (hi : i < 512) (hk : k < 8) : decide (i < 64 * k) = dn k (W S k) i := by
  unfold dn
  by_cases h : i < 64 * k
  · simp [h]
  · by_cases h2 : i < 64 * (k + 1)
    · have : (W S k).testBit (i - 64 * k) = true := by rw [W_test S k _ (by omega), show 64 * k + (i - 64 * k) = i by omega]; exact hS
      simp [h, this]
    · simp [h, h2]
theorem dn_end (k i : Nat) : dn k 0 i = decide (i < 64 * (k + 1)) := by
  unfold dn
  by_cases h : i < 64 * k
  · simp [h]; omega
  · simp [h]
theorem dn_step (k x c : Nat) (hc : c < 64) (hx : x.testBit c = true) (h : ∀ j, (x &&& (x - 1)).testBit j = (x.testBit j && !(j == c))) (i : Nat) : dn k (x &&& (x - 1)) i = (dn k x i || i == k * 64 + c) := by
  unfold dn
  rw [h]
  by_cases h1 : i < 64 * k
  · simp [h1]
  · by_cases h2 : i < 64 * (k + 1)
    · have e : (i == k * 64 + c) = (i - 64 * k == c) := by
        rw [Bool.eq_iff_iff]; simp; omega
      rw [e]
      simp [h1, h2]
    · have e : (i == k * 64 + c) = false := by simp; omega
      simp [h1, h2, e]
theorem run_index_sp (S : Nat → Bool) (k : Nat) (hk : k < 8) (x : World) : (Instr.index 90 (spV (wf S)) (.int .i64 (k : Nat))).run Tryd.prog x = .ok (.int .u64 (wf S k)) x := by
  rcases lt8 hk with rfl | rfl | rfl | rfl | rfl | rfl | rfl | rfl <;> simp [Instr.index, go_sem]
set_option maxHeartbeats 8000000 in
theorem nextS_any {b : Nat} {N : Net} {w : World} (S : Nat → Bool) (hnet : w.heap[b]? = some (.cells (netC N) 94 (0, 0))) (hb0 : 0 < b) (hT : Tb w) :
    Calls Tryd.prog 88 #[.pointer (some ⟨b, 0, none⟩), spV (wf S)] w fun e w' => e = .returned (spV (wf (nxS N S))) ∧ Nk b N w w' := by
  have hb := (Array.getElem?_eq_some_iff.1 hnet).1
  have S0 : Hid (NX b w.heap.size N S noS w (((w.alloc (.cells (spL S).toArray 90)).alloc (.cells (spL noS).toArray 90)).alloc (.cells (spL noS).toArray 90))) := Lib.hid (by
    refine ⟨(Nk.start hnet).up ((((Below.refl _ _).alloc (Nat.le_refl _) _).alloc (by simp) _).alloc (by simp; omega) _), ?_, ?_, ?_⟩
    · rw [heap_alloc_old _ _ (by simp; omega), heap_alloc2_old]
    · rw [heap_alloc_old _ _ (by simp), heap_alloc2_new]
    · have h := _root_.Go.heap_alloc_new ((w.alloc (.cells (spL S).toArray 90)).alloc (.cells (spL noS).toArray 90)) (.cells (spL noS).toArray 90)
      have e : ((w.alloc (.cells (spL S).toArray 90)).alloc (.cells (spL noS).toArray 90)).heap.size = w.heap.size + 1 + 1 := by simp
      rwa [e] at h)
  have HT0 := Lib.hid hT
  obtain ⟨R, hR⟩ : ∃ R, nxS N S = R := ⟨_, rfl⟩
  have HR := Lib.hid (nxD_all N S)
  rw [hR] at HR
  rw [hR]
  have S1 := S0
  rw [spL_noS] at S1
  unfold spL at S1
  clear hnet hT hR
  go_enter Tryd.func88, Tryd.ntmps88
  go_upto_region 2 with fail
  rw [show (#[.int .u64 0, .int .u64 0, .int .u64 0, .int .u64 0, .int .u64 0, .int .u64 0, .int .u64 0, .int .u64 0] : Array Value) = (spL noS).toArray from spL_noS.symm]
  rw [show (#[.int .u64 (wf S 0), .int .u64 (wf S 1), .int .u64 (wf S 2), .int .u64 (wf S 3), .int .u64 (wf S 4), .int .u64 (wf S 5), .int .u64 (wf S 6), .int .u64 (wf S 7)] : Array Value) = (spL S).toArray from rfl]
  clear S1
  generalize (((w.alloc (.cells (spL S).toArray 90)).alloc (.cells (spL noS).toArray 90)).alloc (.cells (spL noS).toArray 90)) = ws at *
  refine wp_region_list ?_
  refine wpList_plain rfl fun K hK => wp_load_sp (.tmp 3) rfl w.heap.size 0 rfl S (row8_range S0.out.2.1) (hK _ _ ?_)
  simp only [Act.put, List.setIfInBounds_toArray, List.set_cons_succ, List.set_cons_zero]
  go_wp2_with fail
  go_loopw [9] (fun i wr => ∃ k : Nat, k ≤ 8 ∧ i = .int .i64 k ∧ Hid (NX b w.heap.size N S (nxD N S (fun i => decide (i < 64 * k))) w wr)) (fun i _ => 8 - (intOf i).toNat)
  case atStart => exact ⟨0, by omega, rfl, by rw [show (fun i => decide (i < 64 * 0)) = (fun _ => false) from by funext i; simp, nxD_none]; exact S0⟩
  case round =>
    obtain ⟨k, hk, rfl, HS⟩ := hrel
    clear S0
    by_cases hlt : k < 8
    · have hlt' : (k : Int) < 8 := by omega
      have hix := run_index_sp S k hlt wr
      have HS1 : Hid (NX b w.heap.size N S (nxD N S (dn k (W S k))) w wr) := Lib.hid (by rw [← nxD_congr fun i hi hS => dn_zero k S i hS hi hlt]; exact HS.out)
      clear HS
      go_wp2_with (simp only [hix])
      clear hix
      go_loopw [7] (fun x w2 => ∃ Xw : Nat, x = .int .u64 (Xw : Nat) ∧ Xw < 18446744073709551616 ∧ Hid (∀ j, Xw.testBit j = true → (W S k).testBit j = true) ∧ Hid (NX b w.heap.size N S (nxD N S (dn k Xw)) w w2)) (fun x _ => (intOf x).toNat)
      case atStart => exact ⟨W S k, rfl, W_lt S k, Lib.hid fun _ h => h, HS1⟩
      case round =>
        obtain ⟨Xw, rfl, hX, HB, HN⟩ := hrel
        clear HS1
        by_cases hx0 : Xw = 0
        · subst hx0
          have HN2 : Hid (NX b w.heap.size N S (nxD N S (fun i => decide (i < 64 * (k + 1)))) w wr) := Lib.hid (by rw [← nxD_congr fun i _ _ => dn_end k i]; exact HN.out)
          clear HN HB
          go_wp2_with fail
          go_roundw
          case rel => exact ⟨k + 1, by omega, by go_num, HN2⟩
          case measure => simp [intOf]; omega
        · have hne : (((Xw : Nat) : Int) != 0) = true := by rw [bne_iff_ne]; omega
          obtain ⟨l1, l2, l3⟩ := low_off Xw hx0 hX
          have htz := Lib.hid fun y (hy : Tb y) => tz_any Xw hX hx0 y hy
          generalize Lib.ctz 64 Xw = c at *
          have hq : k * 64 + c < 512 := by omega
          have hSq : S (k * 64 + c) = true := by
            have := HB.out c l1
            rw [W_test S k c l2] at this
            rw [show k * 64 + c = 64 * k + c by omega]; exact this
          have hD := nxD_more (N := N) hq hSq (dn_step k Xw c l2 l1 l3)
          have hB2 : Hid (∀ j, (Xw &&& (Xw - 1)).testBit j = true → (W S k).testBit j = true) := Lib.hid fun j hj => by
            rw [l3, Bool.and_eq_true] at hj; exact HB.out j hj.1
          obtain ⟨L, hL⟩ : ∃ L, nxD N S (dn k Xw) = L := ⟨_, rfl⟩
          rw [hL] at hD HN
          have HD := Lib.hid hD
          have hXl : Xw &&& (Xw - 1) < Xw := Nat.lt_of_le_of_lt Nat.and_le_right (by omega)
          have hXe : bits .and .u64 ((Xw : Nat) : Int) (((Xw : Nat) : Int) - 1) = ((Xw &&& (Xw - 1) : Nat) : Int) := by
            rw [show ((Xw : Nat) : Int) - 1 = ((Xw - 1 : Nat) : Int) by omega]
            exact bits_and_u64_nat Xw (Xw - 1) hX (by omega)
          have hk8 : (k : Int) < 8 := hlt'
          have hc64 : ((c : Nat) : Int) < 64 := by omega
          clear hD hL hSq l1 l3 HB
          go_wp2_with fail
          refine wp_region_owed2 (fun l act w1 => ∃ X : Nat → Value, act = ⟨(List.toArray ((Value.pointer (some { block := b, off := 0 })) :: (spV (wf S)) :: undef :: (Value.pointer (some { block := w.heap.size, off := 0 })) :: (Value.pointer (some { block := w.heap.size + 1, off := 0 })) :: (Value.pointer (some { block := w.heap.size + 1 + 1, off := 0 })) :: (Value.int IntKind.i64 ↑k) :: (Value.int IntKind.u64 ↑Xw) :: (spV (wf S)) :: (Value.int IntKind.i64 ↑k) :: (Value.bool true) :: (Value.int IntKind.i64 ↑k) :: (Value.int IntKind.u64 (wf S k)) :: (Value.int IntKind.u64 ↑Xw) :: (Value.bool true) :: (u15) :: (u16) :: (u17) :: (u18) :: X 0 :: X 1 :: X 2 :: X 3 :: X 4 :: X 5 :: X 6 :: X 7 :: X 8 :: X 9 :: X 10 :: X 11 :: (u31) :: undef :: [])), []⟩ ∧ (∀ i, l i = true → ([0, 1, 2, 3, 4, 5, 6, 7, 8, 9, 10, 11] : List Nat).contains i = true → X i = (fun z1 => ([spV (wf L), .pointer (some ⟨b, 0, none⟩), .int .i64 (k : Nat), .int .i64 ((k : Int) * 64), .int .u64 (Xw : Nat), .int .i64 (c : Nat), .int .i64 ((k : Int) * 64 + (c : Nat)), .pointer (some ⟨b, 0, none⟩), (.pointer (some ⟨b, 2049, none⟩)), (.pointer (some ⟨b, 2049 + (k * 64 + c) * 8, none⟩)), spV (wf (N.beh (k * 64 + c))), spV (wf (orS L (N.beh (k * 64 + c)))), undef] : List Value).getD z1 undef) i) ∧ NX b w.heap.size N S (bif l 12 then orS L (N.beh (k * 64 + c)) else L) w w1) (by kernel_rfl) (by kernel_rfl) ⟨(fun i => ([(u19), (u20), (u21), (u22), (u23), (u24), (u25), (u26), (u27), (u28), (u29), (u30), undef] : List Value).getD i undef), rfl, (fun i h => by cases h), HN.out.drew⟩ ?st ?fin
          case st =>
            go_light
            refine Owed.next (n := 0) (o := ?o0) ?ho0 ?h0 ?hs0
            case ho0 => rfl
            case h0 =>
              intro l act w1 hw hl hI K hK
              obtain ⟨hc, X, rfl, hX, hT⟩ := hI
              have HX := Lib.hid (packsM 0 hX [] (fun _ h => nomatch h))
              clear hX
              have h12 : l 12 = false := by
                cases h : l 12 with
                | false => rfl
                | true =>
                  have := hc 11 (hc 12 h 11 (by kernel_rfl)) 0 (by kernel_rfl)
                  rw [hl] at this
                  cases this
              have hT0 := hT
              rw [h12] at hT0
              rw [if_pos (by rfl)]
              refine wp_load_sp (.tmp 5) rfl (w.heap.size + 1 + 1) 0 rfl L (row8_range hT0.2.2.2) ?_
              exact hK.out _ _ ⟨hc.next hw, fun z0 => bif (0 :: []).contains z0 then (fun z1 => ([spV (wf L), .pointer (some ⟨b, 0, none⟩), .int .i64 (k : Nat), .int .i64 ((k : Int) * 64), .int .u64 (Xw : Nat), .int .i64 (c : Nat), .int .i64 ((k : Int) * 64 + (c : Nat)), .pointer (some ⟨b, 0, none⟩), (.pointer (some ⟨b, 2049, none⟩)), (.pointer (some ⟨b, 2049 + (k * 64 + c) * 8, none⟩)), spV (wf (N.beh (k * 64 + c))), spV (wf (orS L (N.beh (k * 64 + c)))), undef] : List Value).getD z1 undef) z0 else X z0, rfl, HX.out, hT⟩
            refine Owed.next (n := 1) (o := ?o1) ?ho1 ?h1 ?hs1
            case ho1 => rfl
            case h1 =>
              intro l act w1 hw hl hI K hK
              obtain ⟨hc, X, rfl, hX, hT⟩ := hI
              have HX := Lib.hid (packsM 1 hX [] (fun _ h => nomatch h))
              clear hX
              rw [if_pos (by rfl)]
              go_wp2_with fail
              exact hK.out _ _ ⟨hc.next hw, fun z0 => bif (1 :: []).contains z0 then (fun z1 => ([spV (wf L), .pointer (some ⟨b, 0, none⟩), .int .i64 (k : Nat), .int .i64 ((k : Int) * 64), .int .u64 (Xw : Nat), .int .i64 (c : Nat), .int .i64 ((k : Int) * 64 + (c : Nat)), .pointer (some ⟨b, 0, none⟩), (.pointer (some ⟨b, 2049, none⟩)), (.pointer (some ⟨b, 2049 + (k * 64 + c) * 8, none⟩)), spV (wf (N.beh (k * 64 + c))), spV (wf (orS L (N.beh (k * 64 + c)))), undef] : List Value).getD z1 undef) z0 else X z0, rfl, HX.out, hT⟩
            refine Owed.next (n := 2) (o := ?o2) ?ho2 ?h2 ?hs2
            case ho2 => rfl
            case h2 =>
              intro l act w1 hw hl hI K hK
              obtain ⟨hc, X, rfl, hX, hT⟩ := hI
              have HX := Lib.hid (packsM 2 hX [] (fun _ h => nomatch h))
              clear hX
              rw [if_pos (by rfl)]
              go_wp2_with fail
              exact hK.out _ _ ⟨hc.next hw, fun z0 => bif (2 :: []).contains z0 then (fun z1 => ([spV (wf L), .pointer (some ⟨b, 0, none⟩), .int .i64 (k : Nat), .int .i64 ((k : Int) * 64), .int .u64 (Xw : Nat), .int .i64 (c : Nat), .int .i64 ((k : Int) * 64 + (c : Nat)), .pointer (some ⟨b, 0, none⟩), (.pointer (some ⟨b, 2049, none⟩)), (.pointer (some ⟨b, 2049 + (k * 64 + c) * 8, none⟩)), spV (wf (N.beh (k * 64 + c))), spV (wf (orS L (N.beh (k * 64 + c)))), undef] : List Value).getD z1 undef) z0 else X z0, rfl, HX.out, hT⟩
            refine Owed.next (n := 3) (o := ?o3) ?ho3 ?h3 ?hs3
            case ho3 => rfl
            case h3 =>
              intro l act w1 hw hl hI K hK
              obtain ⟨hc, X, rfl, hX, hT⟩ := hI
              have h2 : X 2 = .int .i64 (k : Nat) := hX 2 (hw 2 (by kernel_rfl)) (by kernel_rfl)
              have HX := Lib.hid (packsM 3 hX [2] (List.forall_mem_cons.2 ⟨hw 2 (by kernel_rfl), (fun _ h => nomatch h)⟩))
              clear hX
              rw [h2]
              clear h2
              rw [if_pos (by rfl)]
              go_wp2_with fail
              exact hK.out _ _ ⟨hc.next hw, fun z0 => bif (3 :: [2]).contains z0 then (fun z1 => ([spV (wf L), .pointer (some ⟨b, 0, none⟩), .int .i64 (k : Nat), .int .i64 ((k : Int) * 64), .int .u64 (Xw : Nat), .int .i64 (c : Nat), .int .i64 ((k : Int) * 64 + (c : Nat)), .pointer (some ⟨b, 0, none⟩), (.pointer (some ⟨b, 2049, none⟩)), (.pointer (some ⟨b, 2049 + (k * 64 + c) * 8, none⟩)), spV (wf (N.beh (k * 64 + c))), spV (wf (orS L (N.beh (k * 64 + c)))), undef] : List Value).getD z1 undef) z0 else X z0, rfl, HX.out, hT⟩
            refine Owed.next (n := 4) (o := ?o4) ?ho4 ?h4 ?hs4
            case ho4 => rfl
            case h4 =>
              intro l act w1 hw hl hI K hK
              obtain ⟨hc, X, rfl, hX, hT⟩ := hI
              have HX := Lib.hid (packsM 4 hX [] (fun _ h => nomatch h))
              clear hX
              rw [if_pos (by rfl)]
              go_wp2_with fail
              exact hK.out _ _ ⟨hc.next hw, fun z0 => bif (4 :: []).contains z0 then (fun z1 => ([spV (wf L), .pointer (some ⟨b, 0, none⟩), .int .i64 (k : Nat), .int .i64 ((k : Int) * 64), .int .u64 (Xw : Nat), .int .i64 (c : Nat), .int .i64 ((k : Int) * 64 + (c : Nat)), .pointer (some ⟨b, 0, none⟩), (.pointer (some ⟨b, 2049, none⟩)), (.pointer (some ⟨b, 2049 + (k * 64 + c) * 8, none⟩)), spV (wf (N.beh (k * 64 + c))), spV (wf (orS L (N.beh (k * 64 + c)))), undef] : List Value).getD z1 undef) z0 else X z0, rfl, HX.out, hT⟩
            refine Owed.next (n := 5) (o := ?o5) ?ho5 ?h5 ?hs5
            case ho5 => rfl
            case h5 =>
              intro l act w1 hw hl hI K hK
              obtain ⟨hc, X, rfl, hX, hT⟩ := hI
              have h4 : X 4 = .int .u64 (Xw : Nat) := hX 4 (hw 4 (by kernel_rfl)) (by kernel_rfl)
              have HX := Lib.hid (packsM 5 hX [4] (List.forall_mem_cons.2 ⟨hw 4 (by kernel_rfl), (fun _ h => nomatch h)⟩))
              clear hX
              rw [h4]
              clear h4
              rw [if_pos (by rfl)]
              go_wp2_with fail
              refine (htz.out _ (hT.tb hb0 hb HT0.out)).mono ?_
              rintro _ _ ⟨rfl, rfl⟩
              exact hK.out _ _ ⟨hc.next hw, fun z0 => bif (5 :: [4]).contains z0 then (fun z1 => ([spV (wf L), .pointer (some ⟨b, 0, none⟩), .int .i64 (k : Nat), .int .i64 ((k : Int) * 64), .int .u64 (Xw : Nat), .int .i64 (c : Nat), .int .i64 ((k : Int) * 64 + (c : Nat)), .pointer (some ⟨b, 0, none⟩), (.pointer (some ⟨b, 2049, none⟩)), (.pointer (some ⟨b, 2049 + (k * 64 + c) * 8, none⟩)), spV (wf (N.beh (k * 64 + c))), spV (wf (orS L (N.beh (k * 64 + c)))), undef] : List Value).getD z1 undef) z0 else X z0, rfl, HX.out, hT⟩
            refine Owed.next (n := 6) (o := ?o6) ?ho6 ?h6 ?hs6
            case ho6 => rfl
            case h6 =>
              intro l act w1 hw hl hI K hK
              obtain ⟨hc, X, rfl, hX, hT⟩ := hI
              have h3 : X 3 = .int .i64 ((k : Int) * 64) := hX 3 (hw 3 (by kernel_rfl)) (by kernel_rfl)
              have h5 : X 5 = .int .i64 (c : Nat) := hX 5 (hw 5 (by kernel_rfl)) (by kernel_rfl)
              have HX := Lib.hid (packsM 6 hX [3, 5] (List.forall_mem_cons.2 ⟨hw 3 (by kernel_rfl), (List.forall_mem_cons.2 ⟨hw 5 (by kernel_rfl), (fun _ h => nomatch h)⟩)⟩))
              clear hX
              rw [h3, h5]
              clear h3 h5
              rw [if_pos (by rfl)]
              go_wp2_with fail
              exact hK.out _ _ ⟨hc.next hw, fun z0 => bif (6 :: [3, 5]).contains z0 then (fun z1 => ([spV (wf L), .pointer (some ⟨b, 0, none⟩), .int .i64 (k : Nat), .int .i64 ((k : Int) * 64), .int .u64 (Xw : Nat), .int .i64 (c : Nat), .int .i64 ((k : Int) * 64 + (c : Nat)), .pointer (some ⟨b, 0, none⟩), (.pointer (some ⟨b, 2049, none⟩)), (.pointer (some ⟨b, 2049 + (k * 64 + c) * 8, none⟩)), spV (wf (N.beh (k * 64 + c))), spV (wf (orS L (N.beh (k * 64 + c)))), undef] : List Value).getD z1 undef) z0 else X z0, rfl, HX.out, hT⟩
            refine Owed.next (n := 7) (o := ?o7) ?ho7 ?h7 ?hs7
            case ho7 => rfl
            case h7 =>
              intro l act w1 hw hl hI K hK
              obtain ⟨hc, X, rfl, hX, hT⟩ := hI
              have h1 : X 1 = .pointer (some ⟨b, 0, none⟩) := hX 1 (hw 1 (by kernel_rfl)) (by kernel_rfl)
              have HX := Lib.hid (packsM 7 hX [1] (List.forall_mem_cons.2 ⟨hw 1 (by kernel_rfl), (fun _ h => nomatch h)⟩))
              clear hX
              rw [h1]
              clear h1
              rw [if_pos (by rfl)]
              go_wp2_with fail
              exact hK.out _ _ ⟨hc.next hw, fun z0 => bif (7 :: [1]).contains z0 then (fun z1 => ([spV (wf L), .pointer (some ⟨b, 0, none⟩), .int .i64 (k : Nat), .int .i64 ((k : Int) * 64), .int .u64 (Xw : Nat), .int .i64 (c : Nat), .int .i64 ((k : Int) * 64 + (c : Nat)), .pointer (some ⟨b, 0, none⟩), (.pointer (some ⟨b, 2049, none⟩)), (.pointer (some ⟨b, 2049 + (k * 64 + c) * 8, none⟩)), spV (wf (N.beh (k * 64 + c))), spV (wf (orS L (N.beh (k * 64 + c)))), undef] : List Value).getD z1 undef) z0 else X z0, rfl, HX.out, hT⟩
            refine Owed.next (n := 8) (o := ?o8) ?ho8 ?h8 ?hs8
            case ho8 => rfl
            case h8 =>
              intro l act w1 hw hl hI K hK
              obtain ⟨hc, X, rfl, hX, hT⟩ := hI
              have h7 : X 7 = .pointer (some ⟨b, 0, none⟩) := hX 7 (hw 7 (by kernel_rfl)) (by kernel_rfl)
              have HX := Lib.hid (packsM 8 hX [7] (List.forall_mem_cons.2 ⟨hw 7 (by kernel_rfl), (fun _ h => nomatch h)⟩))
              clear hX
              rw [h7]
              clear h7
              rw [if_pos (by rfl)]
              go_wp2_with fail
              exact hK.out _ _ ⟨hc.next hw, fun z0 => bif (8 :: [7]).contains z0 then (fun z1 => ([spV (wf L), .pointer (some ⟨b, 0, none⟩), .int .i64 (k : Nat), .int .i64 ((k : Int) * 64), .int .u64 (Xw : Nat), .int .i64 (c : Nat), .int .i64 ((k : Int) * 64 + (c : Nat)), .pointer (some ⟨b, 0, none⟩), (.pointer (some ⟨b, 2049, none⟩)), (.pointer (some ⟨b, 2049 + (k * 64 + c) * 8, none⟩)), spV (wf (N.beh (k * 64 + c))), spV (wf (orS L (N.beh (k * 64 + c)))), undef] : List Value).getD z1 undef) z0 else X z0, rfl, HX.out, hT⟩
            refine Owed.next (n := 9) (o := ?o9) ?ho9 ?h9 ?hs9
            case ho9 => rfl
            case h9 =>
              intro l act w1 hw hl hI K hK
              obtain ⟨hc, X, rfl, hX, hT⟩ := hI
              have h8 : X 8 = (.pointer (some ⟨b, 2049, none⟩)) := hX 8 (hw 8 (by kernel_rfl)) (by kernel_rfl)
              have h6 : X 6 = .int .i64 ((k : Int) * 64 + (c : Nat)) := hX 6 (hw 6 (by kernel_rfl)) (by kernel_rfl)
              have HX := Lib.hid (packsM 9 hX [8, 6] (List.forall_mem_cons.2 ⟨hw 8 (by kernel_rfl), (List.forall_mem_cons.2 ⟨hw 6 (by kernel_rfl), (fun _ h => nomatch h)⟩)⟩))
              clear hX
              have hi1 : ((k : Int) * 64 + (c : Nat)) < 512 := by omega
              have hi2 : ((k : Int) * 64 + (c : Nat)).toNat = k * 64 + c := by omega
              rw [h8, h6]
              clear h8 h6
              rw [if_pos (by rfl)]
              go_wp2_with fail
              exact hK.out _ _ ⟨hc.next hw, fun z0 => bif (9 :: [8, 6]).contains z0 then (fun z1 => ([spV (wf L), .pointer (some ⟨b, 0, none⟩), .int .i64 (k : Nat), .int .i64 ((k : Int) * 64), .int .u64 (Xw : Nat), .int .i64 (c : Nat), .int .i64 ((k : Int) * 64 + (c : Nat)), .pointer (some ⟨b, 0, none⟩), (.pointer (some ⟨b, 2049, none⟩)), (.pointer (some ⟨b, 2049 + (k * 64 + c) * 8, none⟩)), spV (wf (N.beh (k * 64 + c))), spV (wf (orS L (N.beh (k * 64 + c)))), undef] : List Value).getD z1 undef) z0 else X z0, rfl, HX.out, hT⟩
            refine Owed.next (n := 10) (o := ?o10) ?ho10 ?h10 ?hs10
            case ho10 => rfl
            case h10 =>
              intro l act w1 hw hl hI K hK
              obtain ⟨hc, X, rfl, hX, hT⟩ := hI
              have h9 : X 9 = (.pointer (some ⟨b, 2049 + (k * 64 + c) * 8, none⟩)) := hX 9 (hw 9 (by kernel_rfl)) (by kernel_rfl)
              have HX := Lib.hid (packsM 10 hX [9] (List.forall_mem_cons.2 ⟨hw 9 (by kernel_rfl), (fun _ h => nomatch h)⟩))
              clear hX
              rw [h9]
              clear h9
              rw [if_pos (by rfl)]
              refine wp_load_sp (.tmp 28) rfl b (2049 + (k * 64 + c) * 8) rfl (N.beh (k * 64 + c)) (hT.1.behAt _ hq) ?_
              exact hK.out _ _ ⟨hc.next hw, fun z0 => bif (10 :: [9]).contains z0 then (fun z1 => ([spV (wf L), .pointer (some ⟨b, 0, none⟩), .int .i64 (k : Nat), .int .i64 ((k : Int) * 64), .int .u64 (Xw : Nat), .int .i64 (c : Nat), .int .i64 ((k : Int) * 64 + (c : Nat)), .pointer (some ⟨b, 0, none⟩), (.pointer (some ⟨b, 2049, none⟩)), (.pointer (some ⟨b, 2049 + (k * 64 + c) * 8, none⟩)), spV (wf (N.beh (k * 64 + c))), spV (wf (orS L (N.beh (k * 64 + c)))), undef] : List Value).getD z1 undef) z0 else X z0, rfl, HX.out, hT⟩
            refine Owed.next (n := 11) (o := ?o11) ?ho11 ?h11 ?hs11
            case ho11 => rfl
            case h11 =>
              intro l act w1 hw hl hI K hK
              obtain ⟨hc, X, rfl, hX, hT⟩ := hI
              have h0 : X 0 = spV (wf L) := hX 0 (hw 0 (by kernel_rfl)) (by kernel_rfl)
              have h10 : X 10 = spV (wf (N.beh (k * 64 + c))) := hX 10 (hw 10 (by kernel_rfl)) (by kernel_rfl)
              have HX := Lib.hid (packsM 11 hX [0, 10] (List.forall_mem_cons.2 ⟨hw 0 (by kernel_rfl), (List.forall_mem_cons.2 ⟨hw 10 (by kernel_rfl), (fun _ h => nomatch h)⟩)⟩))
              clear hX
              rw [h0, h10]
              clear h0 h10
              rw [if_pos (by rfl)]
              go_wp2_with fail
              refine (either_any _ _ _).mono ?_
              rintro _ w2 ⟨rfl, hb⟩
              exact hK.out _ _ ⟨hc.next hw, fun z0 => bif (11 :: [0, 10]).contains z0 then (fun z1 => ([spV (wf L), .pointer (some ⟨b, 0, none⟩), .int .i64 (k : Nat), .int .i64 ((k : Int) * 64), .int .u64 (Xw : Nat), .int .i64 (c : Nat), .int .i64 ((k : Int) * 64 + (c : Nat)), .pointer (some ⟨b, 0, none⟩), (.pointer (some ⟨b, 2049, none⟩)), (.pointer (some ⟨b, 2049 + (k * 64 + c) * 8, none⟩)), spV (wf (N.beh (k * 64 + c))), spV (wf (orS L (N.beh (k * 64 + c)))), undef] : List Value).getD z1 undef) z0 else X z0, rfl, HX.out, hT.up hb⟩
            refine Owed.next (n := 12) (o := ?o12) ?ho12 ?h12 ?hs12
            case ho12 => rfl
            case h12 =>
              intro l act w1 hw hl hI K hK
              obtain ⟨hc, X, rfl, hX, hT⟩ := hI
              have h11 : X 11 = spV (wf (orS L (N.beh (k * 64 + c)))) := hX 11 (hw 11 (by kernel_rfl)) (by kernel_rfl)
              have HX := fun v => Lib.hid (packsN 12 v hX (by kernel_rfl) [11] (List.forall_mem_cons.2 ⟨hw 11 (by kernel_rfl), (fun _ h => nomatch h)⟩))
              clear hX
              rw [h11]
              clear h11
              rw [if_pos (by rfl)]
              have h12 : l 12 = false := hl
              have hT0 := hT
              rw [h12] at hT0
              refine wp_store_sp (.tmp 5) (.tmp 30) rfl (w.heap.size + 1 + 1) 0 (orS L (N.beh (k * 64 + c))) rfl rfl (row8_there hT0.2.2.2) ?_
              exact hK.out _ _ ⟨hc.next hw, fun z0 => bif [12].contains z0 then undef else bif ([11] : List Nat).contains z0 then (fun z1 => ([spV (wf L), .pointer (some ⟨b, 0, none⟩), .int .i64 (k : Nat), .int .i64 ((k : Int) * 64), .int .u64 (Xw : Nat), .int .i64 (c : Nat), .int .i64 ((k : Int) * 64 + (c : Nat)), .pointer (some ⟨b, 0, none⟩), (.pointer (some ⟨b, 2049, none⟩)), (.pointer (some ⟨b, 2049 + (k * 64 + c) * 8, none⟩)), spV (wf (N.beh (k * 64 + c))), spV (wf (orS L (N.beh (k * 64 + c)))), undef] : List Value).getD z1 undef) z0 else X z0, rfl, (HX _).out, hT0.set hb rfl⟩
            exact Owed.last rfl
          case fin =>
            intro l act w1 hl hI
            obtain ⟨X, rfl, hX, hT⟩ := hI
            have h0 : X 0 = spV (wf L) := hX 0 (hl 0 (by kernel_rfl)) (by kernel_rfl)
            have h1 : X 1 = .pointer (some ⟨b, 0, none⟩) := hX 1 (hl 1 (by kernel_rfl)) (by kernel_rfl)
            have h2 : X 2 = .int .i64 (k : Nat) := hX 2 (hl 2 (by kernel_rfl)) (by kernel_rfl)
            have h3 : X 3 = .int .i64 ((k : Int) * 64) := hX 3 (hl 3 (by kernel_rfl)) (by kernel_rfl)
            have h4 : X 4 = .int .u64 (Xw : Nat) := hX 4 (hl 4 (by kernel_rfl)) (by kernel_rfl)
            have h5 : X 5 = .int .i64 (c : Nat) := hX 5 (hl 5 (by kernel_rfl)) (by kernel_rfl)
            have h6 : X 6 = .int .i64 ((k : Int) * 64 + (c : Nat)) := hX 6 (hl 6 (by kernel_rfl)) (by kernel_rfl)
            have h7 : X 7 = .pointer (some ⟨b, 0, none⟩) := hX 7 (hl 7 (by kernel_rfl)) (by kernel_rfl)
            have h8 : X 8 = (.pointer (some ⟨b, 2049, none⟩)) := hX 8 (hl 8 (by kernel_rfl)) (by kernel_rfl)
            have h9 : X 9 = (.pointer (some ⟨b, 2049 + (k * 64 + c) * 8, none⟩)) := hX 9 (hl 9 (by kernel_rfl)) (by kernel_rfl)
            have h10 : X 10 = spV (wf (N.beh (k * 64 + c))) := hX 10 (hl 10 (by kernel_rfl)) (by kernel_rfl)
            have h11 : X 11 = spV (wf (orS L (N.beh (k * 64 + c)))) := hX 11 (hl 11 (by kernel_rfl)) (by kernel_rfl)
            rw [h0, h1, h2, h3, h4, h5, h6, h7, h8, h9, h10, h11]
            clear h0 h1 h2 h3 h4 h5 h6 h7 h8 h9 h10 h11 hX
            have hT1 := hT
            rw [show l 12 = true from hl 12 (by kernel_rfl)] at hT1
            have HT : Hid (NX b w.heap.size N S (nxD N S (dn k (Xw &&& (Xw - 1)))) w w1) := Lib.hid (by rw [HD.out]; exact hT1)
            clear hT hT1 hl HN X
            go_wp2_with fail
            go_roundw
            case rel => exact ⟨Xw &&& (Xw - 1), rfl, by omega, hB2, HT⟩
            case measure => simp [intOf]; omega
    · obtain rfl : k = 8 := by omega
      have hlt' : ¬ ((8 : Nat) : Int) < 8 := by omega
      have HS2 : Hid (NX b w.heap.size N S R w wr) := Lib.hid (by rw [← HR.out]; have := HS.out; simpa using this)
      clear HS
      go_upto_region 9 with fail
      refine wp_region_list ?_
      refine wpList_plain rfl fun K hK => wp_load_sp (.tmp 5) rfl (w.heap.size + 1 + 1) 0 rfl R (row8_range HS2.out.2.2.2) (hK _ _ ?_)
      simp only [Act.put, List.setIfInBounds_toArray, List.set_cons_succ, List.set_cons_zero]
      refine wpList_plain rfl fun K hK => wp_store_sp (.tmp 4) (.tmp 32) rfl (w.heap.size + 1) 0 R rfl rfl (row8_there HS2.out.2.2.1) (hK _ _ ?_)
      simp only [Act.put]
      refine wpList_nil ?_
      refine at_worldQ (fun y => Nk b N w y ∧ y.heap[w.heap.size + 1]? = some (.cells (spL R).toArray 90 (0, 0))) ⟨HS2.out.1.set hb (by omega) _, (setCells_heap _ 0 _ _ HS2.out.2.2.1).trans (by rw [putA_row])⟩ fun y hy => ?_
      have hv := load_row hy.2
      have HN := Lib.hid hy.1
      clear hy
      go_wp2_with fail
      refine bodyPost_ret (v := spV (wf R)) (by simp [results, Tryd.results88, asAddr, hv]) rfl ⟨rfl, ?_⟩
      exact HN.out
end Go.Proofs.YthglciccejholaaDoor.R5
