/- Package regs: the reader's small steps: what comes next. -/
import Derived.Test.YthglciccejholaaDoorProg
import Derived.Test.YthglciccejholaaDoorRG35
import Derived.Test.YthglciccejholaaDoorV11
import Derived.WalkKit
import Derived.WalkLawsBesides
import Derived.WalkSpells
import Derived.Outline
import Derived.Lib.Walk
import Derived.Lib.Hide
import Derived.RegionTactic
import Derived.LoopTactic
import Derived.Below
import Derived.IntWalk
import Derived.Deep.QuietTactic
import Derived.BigQuiet
import Derived.Lib.ConvBytes
namespace Go.Proofs.YthglciccejholaaDoor.R5
set_option linter.unusedSimpArgs false
set_option linter.unusedVariables false
set_option maxRecDepth 100000
open Go.RowKit

def prtZ : Array Value := #[.bool false, .int .u64 0, .int .u64 0, .int .u64 0, .int .u64 0, .int .u64 0, .int .u64 0, .int .u64 0, .int .u64 0, .int .u64 0, .int .u64 0, .int .u64 0, .int .u64 0, .int .u64 0, .int .u64 0, .int .u64 0, .int .u64 0]
/-- In spot: the net, the set, the answer's part, the one spot. -/
def SPs (b A : Nat) (N : Net) (g one : Nat → Bool) (w0 w : World) : Prop := Nk b N w0 w ∧ w.heap[A]? = some (.cells (vc (wf g)) 24 (0, 0)) ∧ w.heap[A + 1]? = some (.cells prtZ 96 (0, 0)) ∧ w.heap[A + 1 + 1]? = some (.cells (spL one).toArray 90 (0, 0))
theorem W_noS (i : Nat) : W noS i = 0 := (W_eq noS i 0 (by omega) (fun k _ => by simp [noS])).symm
theorem spL_noS : (spL noS).toArray = #[.int .u64 0, .int .u64 0, .int .u64 0, .int .u64 0, .int .u64 0, .int .u64 0, .int .u64 0, .int .u64 0] := by
  simp only [spL, wf, W_noS]; rfl
theorem W_oneS (n i : Nat) : W (oneS n) i = if i = n / 64 then 2 ^ (n % 64) else 0 := by
  have hp : ∀ m, m < 64 → (2 : Nat) ^ m < 18446744073709551616 := fun m hm => by
    have : (2 : Nat) ^ m ≤ 2 ^ 63 := Nat.pow_le_pow_right (by omega) (by omega)
    have e : (2 : Nat) ^ 63 = 9223372036854775808 := by decide
    omega
  refine (W_eq _ _ _ ?_ fun k hk => ?_).symm
  · split
    · exact hp _ (Nat.mod_lt _ (by omega))
    · omega
  · simp only [oneS]
    split
    · rename_i h
      rw [Nat.testBit_two_pow]
      by_cases e : n % 64 = k
      · have : 64 * i + k = n := by omega
        simp [e, this]
      · have : ¬ (64 * i + k = n) := by omega
        simp [e, this]
    · rename_i h
      have : ¬ (64 * i + k = n) := by omega
      simp [this]
theorem wrap_pow (k : Nat) (hk : k < 64) : IntKind.u64.wrap ((2 : Int) ^ k) = ((2 ^ k : Nat) : Int) := by
  have : (2 : Nat) ^ k ≤ 2 ^ 63 := Nat.pow_le_pow_right (by omega) (by omega)
  have e : (2 : Nat) ^ 63 = 9223372036854775808 := by decide
  have e2 : ((2 ^ k : Nat) : Int) = (2 : Int) ^ k := by simp
  rw [← e2, IntKind.wrap_u64]
  generalize (2 : Nat) ^ k = m at *
  omega
theorem spL_set (n : Nat) (hn : n < 512) : (spL noS).toArray.setIfInBounds (n / 64) (.int .u64 (IntKind.u64.wrap ((2 : Int) ^ (n % 64)))) = (spL (oneS n)).toArray := by
  refine arr_ext (n := 8) (by simp [spL]) rfl fun i hi => ?_
  rw [Array.getElem?_setIfInBounds, List.getElem?_toArray, List.getElem?_toArray, spL_get _ _ hi, spL_get _ _ hi]
  have hw : ∀ f, wf f i = ((W f i : Nat) : Int) := fun _ => rfl
  rw [hw, hw, W_oneS, W_noS]
  by_cases e : n / 64 = i
  · rw [if_pos e, if_pos (by simp [spL]; omega), if_pos e.symm, wrap_pow _ (Nat.mod_lt _ (by omega))]
  · rw [if_neg e, if_neg (fun h => e h.symm)]
theorem SPs.up {b A : Nat} {N : Net} {g one : Nat → Bool} {w0 w w' : World} (h : SPs b A N g one w0 w) (hb : Below w.heap.size w w') : SPs b A N g one w0 w' :=
  ⟨h.1.up hb, (hb.block _ (Array.getElem?_eq_some_iff.1 h.2.1).1).trans h.2.1, (hb.block _ (Array.getElem?_eq_some_iff.1 h.2.2.1).1).trans h.2.2.1, (hb.block _ (Array.getElem?_eq_some_iff.1 h.2.2.2).1).trans h.2.2.2⟩
theorem SPs.drew {b A : Nat} {N : Net} {g one : Nat → Bool} {w0 w : World} (h : SPs b A N g one w0 w) : SPs b A N g one w0 w.drew := ⟨h.1.drew, h.2⟩
theorem SPs.put {b A o : Nat} {N M : Net} {g one : Nat → Bool} {w0 w : World} (h : SPs b A N g one w0 w) (hb : b < A) (vs : List Value) (hM : putA (netC N) o vs = netC M) : SPs b A M g one w0 (w.setCells b o vs) :=
  ⟨h.1.put vs hM, (setCells_other (by omega) _ _ _).trans h.2.1, (setCells_other (by omega) _ _ _).trans h.2.2.1, (setCells_other (by omega) _ _ _).trans h.2.2.2⟩
theorem SPs.one {b A : Nat} {N : Net} {g : Nat → Bool} {w0 w : World} {n : Nat} (h : SPs b A N g noS w0 w) (hA : A = w0.heap.size) (hb : b < A) (hn : n < 512) : SPs b A N g (oneS n) w0 (w.setCell ⟨A + 1 + 1, n / 64, none⟩ (.int .u64 (IntKind.u64.wrap ((2 : Int) ^ (n % 64))))) := by
  refine ⟨⟨(heap_setCell_other _ _ _ _ (by simp; omega)).trans h.1.1, h.1.2.1.setCell (p := ⟨A + 1 + 1, n / 64, none⟩) (by simp; omega) _, fun z hz hne => (heap_setCell_other _ _ _ _ (by simp; omega)).trans (h.1.2.2 z hz hne)⟩, (heap_setCell_other _ _ _ _ (by show A ≠ A + 1 + 1; omega)).trans h.2.1, (heap_setCell_other _ _ _ _ (by show A + 1 ≠ A + 1 + 1; omega)).trans h.2.2.1, ?_⟩
  rw [heap_setCell_same _ _ _ _ _ _ h.2.2.2, spL_set n hn]
theorem SPs.vw {b A : Nat} {N : Net} {g one : Nat → Bool} {w0 w : World} (h : SPs b A N g one w0 w) (j : Nat) (hj : j < 4) : w.cell? ⟨A, j, none⟩ = some (.int .u64 (wf g j)) := by
  rw [cell_of_row w A j _ 24 (0, 0) h.2.1]; rcases (by omega : j = 0 ∨ j = 1 ∨ j = 2 ∨ j = 3) with rfl | rfl | rfl | rfl <;> rfl
theorem below_bytes (w : World) (s : ByteArray) : Below w.heap.size w (Lib.bytesWorld w 5 s) :=
  ⟨rfl, rfl, rfl, by rw [Lib.bytesWorld_size]; omega, fun k hk => Lib.bytesWorld_at_old w 5 s k hk⟩
theorem mem_has (g : Nat → Bool) (c : Nat) (hc : c < 256) : ∀ k, k ≤ 256 → (mem g k).contains (UInt8.ofNat c) = (decide (c < k) && g c)
  | 0, _ => by simp [mem]
  | k + 1, hk => by
    have ih := mem_has g c hc k (by omega)
    have e : (UInt8.ofNat c == UInt8.ofNat k) = decide (c = k) := by
      by_cases h : c = k
      · subst h; simp
      · have : UInt8.ofNat c ≠ UInt8.ofNat k := fun e => h (by
          have := congrArg UInt8.toNat e
          simp at this; omega)
        simp [h, this]
    rw [mem]
    cases hg : g k with
    | true =>
      rw [if_pos rfl, List.contains_eq_any_beq, List.any_append, ← List.contains_eq_any_beq, ih]
      simp only [List.any_cons, List.any_nil, Bool.or_false, e]
      by_cases h : c = k
      · subst h; simp [hg]
      · rw [show decide (c < k) = decide (c < k + 1) by simp; omega]; simp [h]
    | false =>
      rw [if_neg (by simp), ih]
      by_cases h : c = k
      · subst h; simp [hg]
      · rw [show decide (c < k) = decide (c < k + 1) by simp; omega]
theorem mem_le (g : Nat → Bool) : ∀ k, (mem g k).length ≤ k
  | 0 => by simp [mem]
  | k + 1 => by
    have := mem_le g k
    rw [mem]
    split
    · simp; omega
    · omega
def spotK (N : Net) (G : List UInt8) (k : Nat) : Net := ⟨N.n + 1, fun c j => N.has c j || ((G.take k).contains (UInt8.ofNat c) && j == N.n), N.beh⟩
theorem spotK_zero (N : Net) (G : List UInt8) : spotK N G 0 = ⟨N.n + 1, N.has, N.beh⟩ := by simp [spotK]
theorem spotK_end (N : Net) (g : Nat → Bool) : netC (spotK N (mem g 256) (mem g 256).length) = netC (N.spot g) := by
  refine netC_congr rfl (fun c hc s _ => ?_) (fun _ _ _ _ => rfl)
  show (N.has c s || (((mem g 256).take (mem g 256).length).contains (UInt8.ofNat c) && s == N.n)) = (N.has c s || (g c && s == N.n))
  rw [List.take_length, mem_has g c hc 256 (by omega)]
  simp [hc]
theorem spotK_put (N : Net) (G : List UInt8) (k : Nat) (hk : k < G.length) : putA (netC (spotK N G k)) (1 + G[k].toNat * 8) (spL (orS ((spotK N G k).has G[k].toNat) (oneS N.n))) = netC (spotK N G (k + 1)) := by
  have ht : G.take (k + 1) = G.take k ++ [G[k]] := by rw [List.take_add_one, List.getElem?_eq_getElem hk]; rfl
  have hc : ∀ x, (G.take (k + 1)).contains x = ((G.take k).contains x || x == G[k]) := fun x => by
    rw [ht, List.contains_eq_any_beq, List.any_append, ← List.contains_eq_any_beq]; simp
  refine putA_has _ G[k].toNat_lt _ rfl (fun s _ => ?_) (fun c hc' hne s _ => ?_) (fun _ _ _ _ => rfl)
  · show (N.has _ s || ((G.take (k + 1)).contains (UInt8.ofNat G[k].toNat) && s == N.n)) = ((N.has _ s || ((G.take k).contains (UInt8.ofNat G[k].toNat) && s == N.n)) || s == N.n)
    rw [hc, UInt8.ofNat_toNat, beq_self_eq_true, Bool.or_true, Bool.true_and]
    cases N.has G[k].toNat s <;> cases (G.take k).contains G[k] <;> cases (s == N.n) <;> rfl
  · show (N.has c s || ((G.take k).contains (UInt8.ofNat c) && s == N.n)) = (N.has c s || ((G.take (k + 1)).contains (UInt8.ofNat c) && s == N.n))
    have e : (UInt8.ofNat c == G[k]) = false := by
      rw [beq_eq_false_iff_ne]
      intro e
      have := congrArg UInt8.toNat e
      simp at this; omega
    rw [hc, e, Bool.or_false]
/-- The same, and the bytes of the members at Y. -/
def SPy (b A Y : Nat) (bc : Array Value) (fz : Nat × Nat) (N : Net) (g one : Nat → Bool) (w0 w : World) : Prop := SPs b A N g one w0 w ∧ w.heap[Y]? = some (.cells bc 5 fz)
theorem SPy.up {b A Y : Nat} {bc : Array Value} {fz : Nat × Nat} {N : Net} {g one : Nat → Bool} {w0 w w' : World} (h : SPy b A Y bc fz N g one w0 w) (hb : Below w.heap.size w w') : SPy b A Y bc fz N g one w0 w' :=
  ⟨h.1.up hb, (hb.block _ (Array.getElem?_eq_some_iff.1 h.2).1).trans h.2⟩
theorem SPy.put {b A Y o : Nat} {bc : Array Value} {fz : Nat × Nat} {N M : Net} {g one : Nat → Bool} {w0 w : World} (h : SPy b A Y bc fz N g one w0 w) (hb : b < A) (hY : A ≤ Y) (vs : List Value) (hM : putA (netC N) o vs = netC M) : SPy b A Y bc fz M g one w0 (w.setCells b o vs) :=
  ⟨h.1.put hb vs hM, (setCells_other (by omega) _ _ _).trans h.2⟩
def prtA (p : Prt) : Array Value := #[.bool p.e, .int .u64 (wf p.f 0), .int .u64 (wf p.f 1), .int .u64 (wf p.f 2), .int .u64 (wf p.f 3), .int .u64 (wf p.f 4), .int .u64 (wf p.f 5), .int .u64 (wf p.f 6), .int .u64 (wf p.f 7), .int .u64 (wf p.l 0), .int .u64 (wf p.l 1), .int .u64 (wf p.l 2), .int .u64 (wf p.l 3), .int .u64 (wf p.l 4), .int .u64 (wf p.l 5), .int .u64 (wf p.l 6), .int .u64 (wf p.l 7)]
theorem putA_n (N : Net) : putA (netC N) 0 [.int .i64 ((N.n : Nat) + 1 : Int)] = netC ⟨N.n + 1, N.has, N.beh⟩ := by
  refine arr_ext (n := 6145) (by rw [putA_size, netC_size]) (netC_size _) fun i hi => ?_
  rw [putA_get _ _ _ _ (by rw [netC_size]; simp), netC_get _ i hi, netC_get _ i hi]
  by_cases h0 : i = 0
  · subst h0; simp [netV]
  · rw [if_neg (by simp; omega)]
    unfold netV
    rw [if_neg h0, if_neg h0]
set_option maxHeartbeats 4000000 in
theorem spot_any {b : Nat} {N : Net} {w : World} (g : Nat → Bool) (h : w.heap[b]? = some (.cells (netC N) 94 (0, 0))) (hn : N.n < 512) :
    Calls Tryd.prog 83 #[.pointer (some ⟨b, 0, none⟩), vv (wf g)] w fun e w' => e = .returned (.agg (prtA ⟨false, oneS N.n, oneS N.n⟩)) ∧ Nk b (N.spot g) w w' := by
  have hb := (Array.getElem?_eq_some_iff.1 h).1
  have hM0 := members_any g
  have SE0 := spotK_end N g
  have hGl := mem_le g 256
  obtain ⟨G, hG⟩ : ∃ G, mem g 256 = G := ⟨_, rfl⟩
  rw [hG] at hM0 SE0 hGl
  have hM := Lib.hid hM0
  have SE := Lib.hid SE0
  have HPt := Lib.hid (spotK_put N G)
  clear hG hM0 SE0
  have hn8 : ((N.n : Nat) : Int) / 64 < 8 := by omega
  have hn8' : N.n / 64 < 8 := by omega
  have S0 : Hid (SPs b w.heap.size N g noS w (((w.alloc (.cells (vc (wf g)) 24)).alloc (.cells prtZ 96)).alloc (.cells (spL noS).toArray 90))) := Lib.hid (by
    refine ⟨(Nk.start h).up ((((Below.refl _ _).alloc (Nat.le_refl _) _).alloc (by simp) _).alloc (by simp; omega) _), ?_, ?_, ?_⟩
    · rw [heap_alloc_old _ _ (by simp; omega), heap_alloc2_old]
    · rw [heap_alloc_old _ _ (by simp), heap_alloc2_new]
    · have h := _root_.Go.heap_alloc_new ((w.alloc (.cells (vc (wf g)) 24)).alloc (.cells prtZ 96)) (.cells (spL noS).toArray 90)
      have e : ((w.alloc (.cells (vc (wf g)) 24)).alloc (.cells prtZ 96)).heap.size = w.heap.size + 1 + 1 := by simp
      rwa [e] at h)
  rw [spL_noS] at S0
  unfold vc prtZ at S0
  clear h
  go_enter Tryd.func83, Tryd.ntmps83
  go_wp2_with fail
  refine wp_region_owed2 (fun l act w1 => ∃ X : Nat → Value, act = ⟨(List.toArray (.pointer (some ⟨b, 0, none⟩) :: vv (wf g) :: undef :: .pointer (some ⟨w.heap.size, 0, none⟩) :: .pointer (some ⟨w.heap.size + 1, 0, none⟩) :: .pointer (some ⟨w.heap.size + 1 + 1, 0, none⟩) :: undef :: undef :: X 0 :: X 1 :: X 2 :: X 3 :: X 4 :: X 5 :: X 6 :: X 7 :: X 8 :: X 9 :: X 10 :: X 11 :: undef :: undef :: undef :: undef :: undef :: undef :: undef :: undef :: undef :: undef :: undef :: undef :: undef :: undef :: undef :: undef :: undef :: undef :: undef :: undef :: undef :: undef :: undef :: undef :: undef :: undef :: undef :: undef :: undef :: undef :: undef :: undef :: [])), []⟩ ∧ (∀ i, l i = true → ([0, 1, 2, 3, 4, 5, 6, 7, 8, 9, 10, 11] : List Nat).contains i = true → X i = (fun z1 => ([.pointer (some ⟨b, 0, none⟩), .pointer (some ⟨b, 0, none⟩), .pointer (some ⟨b, 0, none⟩), .int .i64 (N.n : Nat), .int .i64 (((N.n : Nat) : Int) / 64), .pointer (some ⟨b, 0, none⟩), .pointer (some ⟨b, 0, none⟩), .pointer (some ⟨b, 0, none⟩), .int .i64 (N.n : Nat), .int .i64 (((N.n : Nat) : Int) % 64), .int .u64 (IntKind.u64.wrap ((2 : Int) ^ (N.n % 64))), .pointer (some ⟨w.heap.size + 1 + 1, N.n / 64, none⟩), undef] : List Value).getD z1 undef) i) ∧ SPs b w.heap.size N g (bif l 12 then oneS N.n else noS) w w1) (by kernel_rfl) (by kernel_rfl) ⟨(fun i => ([undef, undef, undef, undef, undef, undef, undef, undef, undef, undef, undef, undef, undef] : List Value).getD i undef), rfl, (fun i h => by cases h), S0.out.drew⟩ ?st ?fin
  case st =>
    go_light
    refine Owed.next (n := 0) (o := ?o0) ?ho0 ?h0 ?hs0
    case ho0 => rfl
    case h0 =>
      intro l act w1 hw hl hI K hK
      obtain ⟨hc, X, rfl, hX, hT⟩ := hI
      have HX := Lib.hid (packsM 0 hX [] (fun _ h => nomatch h))
      clear hX
      rw [if_pos (by rfl)]
      go_wp2_with fail
      exact hK.out _ _ ⟨hc.next hw, fun z0 => bif (0 :: []).contains z0 then (fun z1 => ([.pointer (some ⟨b, 0, none⟩), .pointer (some ⟨b, 0, none⟩), .pointer (some ⟨b, 0, none⟩), .int .i64 (N.n : Nat), .int .i64 (((N.n : Nat) : Int) / 64), .pointer (some ⟨b, 0, none⟩), .pointer (some ⟨b, 0, none⟩), .pointer (some ⟨b, 0, none⟩), .int .i64 (N.n : Nat), .int .i64 (((N.n : Nat) : Int) % 64), .int .u64 (IntKind.u64.wrap ((2 : Int) ^ (N.n % 64))), .pointer (some ⟨w.heap.size + 1 + 1, N.n / 64, none⟩), undef] : List Value).getD z1 undef) z0 else X z0, rfl, HX.out, hT⟩
    refine Owed.next (n := 1) (o := ?o1) ?ho1 ?h1 ?hs1
    case ho1 => rfl
    case h1 =>
      intro l act w1 hw hl hI K hK
      obtain ⟨hc, X, rfl, hX, hT⟩ := hI
      have h0 : X 0 = .pointer (some ⟨b, 0, none⟩) := hX 0 (hw 0 (by kernel_rfl)) (by kernel_rfl)
      have HX := Lib.hid (packsM 1 hX [0] (List.forall_mem_cons.2 ⟨hw 0 (by kernel_rfl), (fun _ h => nomatch h)⟩))
      clear hX
      rw [h0]
      clear h0
      rw [if_pos (by rfl)]
      go_wp2_with fail
      exact hK.out _ _ ⟨hc.next hw, fun z0 => bif (1 :: [0]).contains z0 then (fun z1 => ([.pointer (some ⟨b, 0, none⟩), .pointer (some ⟨b, 0, none⟩), .pointer (some ⟨b, 0, none⟩), .int .i64 (N.n : Nat), .int .i64 (((N.n : Nat) : Int) / 64), .pointer (some ⟨b, 0, none⟩), .pointer (some ⟨b, 0, none⟩), .pointer (some ⟨b, 0, none⟩), .int .i64 (N.n : Nat), .int .i64 (((N.n : Nat) : Int) % 64), .int .u64 (IntKind.u64.wrap ((2 : Int) ^ (N.n % 64))), .pointer (some ⟨w.heap.size + 1 + 1, N.n / 64, none⟩), undef] : List Value).getD z1 undef) z0 else X z0, rfl, HX.out, hT⟩
    refine Owed.next (n := 2) (o := ?o2) ?ho2 ?h2 ?hs2
    case ho2 => rfl
    case h2 =>
      intro l act w1 hw hl hI K hK
      obtain ⟨hc, X, rfl, hX, hT⟩ := hI
      have h1 : X 1 = .pointer (some ⟨b, 0, none⟩) := hX 1 (hw 1 (by kernel_rfl)) (by kernel_rfl)
      have HX := Lib.hid (packsM 2 hX [1] (List.forall_mem_cons.2 ⟨hw 1 (by kernel_rfl), (fun _ h => nomatch h)⟩))
      clear hX
      rw [h1]
      clear h1
      rw [if_pos (by rfl)]
      go_wp2_with fail
      exact hK.out _ _ ⟨hc.next hw, fun z0 => bif (2 :: [1]).contains z0 then (fun z1 => ([.pointer (some ⟨b, 0, none⟩), .pointer (some ⟨b, 0, none⟩), .pointer (some ⟨b, 0, none⟩), .int .i64 (N.n : Nat), .int .i64 (((N.n : Nat) : Int) / 64), .pointer (some ⟨b, 0, none⟩), .pointer (some ⟨b, 0, none⟩), .pointer (some ⟨b, 0, none⟩), .int .i64 (N.n : Nat), .int .i64 (((N.n : Nat) : Int) % 64), .int .u64 (IntKind.u64.wrap ((2 : Int) ^ (N.n % 64))), .pointer (some ⟨w.heap.size + 1 + 1, N.n / 64, none⟩), undef] : List Value).getD z1 undef) z0 else X z0, rfl, HX.out, hT⟩
    refine Owed.next (n := 3) (o := ?o3) ?ho3 ?h3 ?hs3
    case ho3 => rfl
    case h3 =>
      intro l act w1 hw hl hI K hK
      obtain ⟨hc, X, rfl, hX, hT⟩ := hI
      have h2 : X 2 = .pointer (some ⟨b, 0, none⟩) := hX 2 (hw 2 (by kernel_rfl)) (by kernel_rfl)
      have HX := Lib.hid (packsM 3 hX [2] (List.forall_mem_cons.2 ⟨hw 2 (by kernel_rfl), (fun _ h => nomatch h)⟩))
      clear hX
      rw [h2]
      clear h2
      rw [if_pos (by rfl)]
      have hk := hT.1.count
      go_wp2_with fail
      exact hK.out _ _ ⟨hc.next hw, fun z0 => bif (3 :: [2]).contains z0 then (fun z1 => ([.pointer (some ⟨b, 0, none⟩), .pointer (some ⟨b, 0, none⟩), .pointer (some ⟨b, 0, none⟩), .int .i64 (N.n : Nat), .int .i64 (((N.n : Nat) : Int) / 64), .pointer (some ⟨b, 0, none⟩), .pointer (some ⟨b, 0, none⟩), .pointer (some ⟨b, 0, none⟩), .int .i64 (N.n : Nat), .int .i64 (((N.n : Nat) : Int) % 64), .int .u64 (IntKind.u64.wrap ((2 : Int) ^ (N.n % 64))), .pointer (some ⟨w.heap.size + 1 + 1, N.n / 64, none⟩), undef] : List Value).getD z1 undef) z0 else X z0, rfl, HX.out, hT⟩
    refine Owed.next (n := 4) (o := ?o4) ?ho4 ?h4 ?hs4
    case ho4 => rfl
    case h4 =>
      intro l act w1 hw hl hI K hK
      obtain ⟨hc, X, rfl, hX, hT⟩ := hI
      have h3 : X 3 = .int .i64 (N.n : Nat) := hX 3 (hw 3 (by kernel_rfl)) (by kernel_rfl)
      have HX := Lib.hid (packsM 4 hX [3] (List.forall_mem_cons.2 ⟨hw 3 (by kernel_rfl), (fun _ h => nomatch h)⟩))
      clear hX
      rw [h3]
      clear h3
      rw [if_pos (by rfl)]
      go_wp2_with fail
      exact hK.out _ _ ⟨hc.next hw, fun z0 => bif (4 :: [3]).contains z0 then (fun z1 => ([.pointer (some ⟨b, 0, none⟩), .pointer (some ⟨b, 0, none⟩), .pointer (some ⟨b, 0, none⟩), .int .i64 (N.n : Nat), .int .i64 (((N.n : Nat) : Int) / 64), .pointer (some ⟨b, 0, none⟩), .pointer (some ⟨b, 0, none⟩), .pointer (some ⟨b, 0, none⟩), .int .i64 (N.n : Nat), .int .i64 (((N.n : Nat) : Int) % 64), .int .u64 (IntKind.u64.wrap ((2 : Int) ^ (N.n % 64))), .pointer (some ⟨w.heap.size + 1 + 1, N.n / 64, none⟩), undef] : List Value).getD z1 undef) z0 else X z0, rfl, HX.out, hT⟩
    refine Owed.next (n := 5) (o := ?o5) ?ho5 ?h5 ?hs5
    case ho5 => rfl
    case h5 =>
      intro l act w1 hw hl hI K hK
      obtain ⟨hc, X, rfl, hX, hT⟩ := hI
      have HX := Lib.hid (packsM 5 hX [] (fun _ h => nomatch h))
      clear hX
      rw [if_pos (by rfl)]
      go_wp2_with fail
      exact hK.out _ _ ⟨hc.next hw, fun z0 => bif (5 :: []).contains z0 then (fun z1 => ([.pointer (some ⟨b, 0, none⟩), .pointer (some ⟨b, 0, none⟩), .pointer (some ⟨b, 0, none⟩), .int .i64 (N.n : Nat), .int .i64 (((N.n : Nat) : Int) / 64), .pointer (some ⟨b, 0, none⟩), .pointer (some ⟨b, 0, none⟩), .pointer (some ⟨b, 0, none⟩), .int .i64 (N.n : Nat), .int .i64 (((N.n : Nat) : Int) % 64), .int .u64 (IntKind.u64.wrap ((2 : Int) ^ (N.n % 64))), .pointer (some ⟨w.heap.size + 1 + 1, N.n / 64, none⟩), undef] : List Value).getD z1 undef) z0 else X z0, rfl, HX.out, hT⟩
    refine Owed.next (n := 6) (o := ?o6) ?ho6 ?h6 ?hs6
    case ho6 => rfl
    case h6 =>
      intro l act w1 hw hl hI K hK
      obtain ⟨hc, X, rfl, hX, hT⟩ := hI
      have h5 : X 5 = .pointer (some ⟨b, 0, none⟩) := hX 5 (hw 5 (by kernel_rfl)) (by kernel_rfl)
      have HX := Lib.hid (packsM 6 hX [5] (List.forall_mem_cons.2 ⟨hw 5 (by kernel_rfl), (fun _ h => nomatch h)⟩))
      clear hX
      rw [h5]
      clear h5
      rw [if_pos (by rfl)]
      go_wp2_with fail
      exact hK.out _ _ ⟨hc.next hw, fun z0 => bif (6 :: [5]).contains z0 then (fun z1 => ([.pointer (some ⟨b, 0, none⟩), .pointer (some ⟨b, 0, none⟩), .pointer (some ⟨b, 0, none⟩), .int .i64 (N.n : Nat), .int .i64 (((N.n : Nat) : Int) / 64), .pointer (some ⟨b, 0, none⟩), .pointer (some ⟨b, 0, none⟩), .pointer (some ⟨b, 0, none⟩), .int .i64 (N.n : Nat), .int .i64 (((N.n : Nat) : Int) % 64), .int .u64 (IntKind.u64.wrap ((2 : Int) ^ (N.n % 64))), .pointer (some ⟨w.heap.size + 1 + 1, N.n / 64, none⟩), undef] : List Value).getD z1 undef) z0 else X z0, rfl, HX.out, hT⟩
    refine Owed.next (n := 7) (o := ?o7) ?ho7 ?h7 ?hs7
    case ho7 => rfl
    case h7 =>
      intro l act w1 hw hl hI K hK
      obtain ⟨hc, X, rfl, hX, hT⟩ := hI
      have h6 : X 6 = .pointer (some ⟨b, 0, none⟩) := hX 6 (hw 6 (by kernel_rfl)) (by kernel_rfl)
      have HX := Lib.hid (packsM 7 hX [6] (List.forall_mem_cons.2 ⟨hw 6 (by kernel_rfl), (fun _ h => nomatch h)⟩))
      clear hX
      rw [h6]
      clear h6
      rw [if_pos (by rfl)]
      go_wp2_with fail
      exact hK.out _ _ ⟨hc.next hw, fun z0 => bif (7 :: [6]).contains z0 then (fun z1 => ([.pointer (some ⟨b, 0, none⟩), .pointer (some ⟨b, 0, none⟩), .pointer (some ⟨b, 0, none⟩), .int .i64 (N.n : Nat), .int .i64 (((N.n : Nat) : Int) / 64), .pointer (some ⟨b, 0, none⟩), .pointer (some ⟨b, 0, none⟩), .pointer (some ⟨b, 0, none⟩), .int .i64 (N.n : Nat), .int .i64 (((N.n : Nat) : Int) % 64), .int .u64 (IntKind.u64.wrap ((2 : Int) ^ (N.n % 64))), .pointer (some ⟨w.heap.size + 1 + 1, N.n / 64, none⟩), undef] : List Value).getD z1 undef) z0 else X z0, rfl, HX.out, hT⟩
    refine Owed.next (n := 8) (o := ?o8) ?ho8 ?h8 ?hs8
    case ho8 => rfl
    case h8 =>
      intro l act w1 hw hl hI K hK
      obtain ⟨hc, X, rfl, hX, hT⟩ := hI
      have h7 : X 7 = .pointer (some ⟨b, 0, none⟩) := hX 7 (hw 7 (by kernel_rfl)) (by kernel_rfl)
      have HX := Lib.hid (packsM 8 hX [7] (List.forall_mem_cons.2 ⟨hw 7 (by kernel_rfl), (fun _ h => nomatch h)⟩))
      clear hX
      rw [h7]
      clear h7
      rw [if_pos (by rfl)]
      have hk := hT.1.count
      go_wp2_with fail
      exact hK.out _ _ ⟨hc.next hw, fun z0 => bif (8 :: [7]).contains z0 then (fun z1 => ([.pointer (some ⟨b, 0, none⟩), .pointer (some ⟨b, 0, none⟩), .pointer (some ⟨b, 0, none⟩), .int .i64 (N.n : Nat), .int .i64 (((N.n : Nat) : Int) / 64), .pointer (some ⟨b, 0, none⟩), .pointer (some ⟨b, 0, none⟩), .pointer (some ⟨b, 0, none⟩), .int .i64 (N.n : Nat), .int .i64 (((N.n : Nat) : Int) % 64), .int .u64 (IntKind.u64.wrap ((2 : Int) ^ (N.n % 64))), .pointer (some ⟨w.heap.size + 1 + 1, N.n / 64, none⟩), undef] : List Value).getD z1 undef) z0 else X z0, rfl, HX.out, hT⟩
    refine Owed.next (n := 9) (o := ?o9) ?ho9 ?h9 ?hs9
    case ho9 => rfl
    case h9 =>
      intro l act w1 hw hl hI K hK
      obtain ⟨hc, X, rfl, hX, hT⟩ := hI
      have h8 : X 8 = .int .i64 (N.n : Nat) := hX 8 (hw 8 (by kernel_rfl)) (by kernel_rfl)
      have HX := Lib.hid (packsM 9 hX [8] (List.forall_mem_cons.2 ⟨hw 8 (by kernel_rfl), (fun _ h => nomatch h)⟩))
      clear hX
      rw [h8]
      clear h8
      rw [if_pos (by rfl)]
      go_wp2_with fail
      exact hK.out _ _ ⟨hc.next hw, fun z0 => bif (9 :: [8]).contains z0 then (fun z1 => ([.pointer (some ⟨b, 0, none⟩), .pointer (some ⟨b, 0, none⟩), .pointer (some ⟨b, 0, none⟩), .int .i64 (N.n : Nat), .int .i64 (((N.n : Nat) : Int) / 64), .pointer (some ⟨b, 0, none⟩), .pointer (some ⟨b, 0, none⟩), .pointer (some ⟨b, 0, none⟩), .int .i64 (N.n : Nat), .int .i64 (((N.n : Nat) : Int) % 64), .int .u64 (IntKind.u64.wrap ((2 : Int) ^ (N.n % 64))), .pointer (some ⟨w.heap.size + 1 + 1, N.n / 64, none⟩), undef] : List Value).getD z1 undef) z0 else X z0, rfl, HX.out, hT⟩
    refine Owed.next (n := 10) (o := ?o10) ?ho10 ?h10 ?hs10
    case ho10 => rfl
    case h10 =>
      intro l act w1 hw hl hI K hK
      obtain ⟨hc, X, rfl, hX, hT⟩ := hI
      have h9 : X 9 = .int .i64 (((N.n : Nat) : Int) % 64) := hX 9 (hw 9 (by kernel_rfl)) (by kernel_rfl)
      have HX := Lib.hid (packsM 10 hX [9] (List.forall_mem_cons.2 ⟨hw 9 (by kernel_rfl), (fun _ h => nomatch h)⟩))
      clear hX
      rw [h9]
      clear h9
      rw [if_pos (by rfl)]
      go_wp2_with fail
      exact hK.out _ _ ⟨hc.next hw, fun z0 => bif (10 :: [9]).contains z0 then (fun z1 => ([.pointer (some ⟨b, 0, none⟩), .pointer (some ⟨b, 0, none⟩), .pointer (some ⟨b, 0, none⟩), .int .i64 (N.n : Nat), .int .i64 (((N.n : Nat) : Int) / 64), .pointer (some ⟨b, 0, none⟩), .pointer (some ⟨b, 0, none⟩), .pointer (some ⟨b, 0, none⟩), .int .i64 (N.n : Nat), .int .i64 (((N.n : Nat) : Int) % 64), .int .u64 (IntKind.u64.wrap ((2 : Int) ^ (N.n % 64))), .pointer (some ⟨w.heap.size + 1 + 1, N.n / 64, none⟩), undef] : List Value).getD z1 undef) z0 else X z0, rfl, HX.out, hT⟩
    refine Owed.next (n := 11) (o := ?o11) ?ho11 ?h11 ?hs11
    case ho11 => rfl
    case h11 =>
      intro l act w1 hw hl hI K hK
      obtain ⟨hc, X, rfl, hX, hT⟩ := hI
      have h4 : X 4 = .int .i64 (((N.n : Nat) : Int) / 64) := hX 4 (hw 4 (by kernel_rfl)) (by kernel_rfl)
      have HX := Lib.hid (packsM 11 hX [4] (List.forall_mem_cons.2 ⟨hw 4 (by kernel_rfl), (fun _ h => nomatch h)⟩))
      clear hX
      rw [h4]
      clear h4
      rw [if_pos (by rfl)]
      go_wp2_with fail
      exact hK.out _ _ ⟨hc.next hw, fun z0 => bif (11 :: [4]).contains z0 then (fun z1 => ([.pointer (some ⟨b, 0, none⟩), .pointer (some ⟨b, 0, none⟩), .pointer (some ⟨b, 0, none⟩), .int .i64 (N.n : Nat), .int .i64 (((N.n : Nat) : Int) / 64), .pointer (some ⟨b, 0, none⟩), .pointer (some ⟨b, 0, none⟩), .pointer (some ⟨b, 0, none⟩), .int .i64 (N.n : Nat), .int .i64 (((N.n : Nat) : Int) % 64), .int .u64 (IntKind.u64.wrap ((2 : Int) ^ (N.n % 64))), .pointer (some ⟨w.heap.size + 1 + 1, N.n / 64, none⟩), undef] : List Value).getD z1 undef) z0 else X z0, rfl, HX.out, hT⟩
    refine Owed.next (n := 12) (o := ?o12) ?ho12 ?h12 ?hs12
    case ho12 => rfl
    case h12 =>
      intro l act w1 hw hl hI K hK
      obtain ⟨hc, X, rfl, hX, hT⟩ := hI
      have h11 : X 11 = .pointer (some ⟨w.heap.size + 1 + 1, N.n / 64, none⟩) := hX 11 (hw 11 (by kernel_rfl)) (by kernel_rfl)
      have h10 : X 10 = .int .u64 (IntKind.u64.wrap ((2 : Int) ^ (N.n % 64))) := hX 10 (hw 10 (by kernel_rfl)) (by kernel_rfl)
      have HX := fun v => Lib.hid (packsN 12 v hX (by kernel_rfl) [11, 10] (List.forall_mem_cons.2 ⟨hw 11 (by kernel_rfl), (List.forall_mem_cons.2 ⟨hw 10 (by kernel_rfl), (fun _ h => nomatch h)⟩)⟩))
      clear hX
      rw [h11, h10]
      clear h11 h10
      rw [if_pos (by rfl)]
      have h12 : l 12 = false := hl
      have hT0 := hT
      rw [h12] at hT0
      have cw : w1.cell? ⟨w.heap.size + 1 + 1, N.n / 64, none⟩ = some (.int .u64 (wf noS (N.n / 64))) := row8_at hT0.2.2.2 (N.n / 64) hn8'
      have fw : w1.frozen? ⟨w.heap.size + 1 + 1, N.n / 64, none⟩ = false := frozen_of_row w1 _ _ _ 90 hT0.2.2.2
      go_wp2_with fail
      exact hK.out _ _ ⟨hc.next hw, fun z0 => bif [12].contains z0 then undef else bif ([11, 10] : List Nat).contains z0 then (fun z1 => ([.pointer (some ⟨b, 0, none⟩), .pointer (some ⟨b, 0, none⟩), .pointer (some ⟨b, 0, none⟩), .int .i64 (N.n : Nat), .int .i64 (((N.n : Nat) : Int) / 64), .pointer (some ⟨b, 0, none⟩), .pointer (some ⟨b, 0, none⟩), .pointer (some ⟨b, 0, none⟩), .int .i64 (N.n : Nat), .int .i64 (((N.n : Nat) : Int) % 64), .int .u64 (IntKind.u64.wrap ((2 : Int) ^ (N.n % 64))), .pointer (some ⟨w.heap.size + 1 + 1, N.n / 64, none⟩), undef] : List Value).getD z1 undef) z0 else X z0, rfl, (HX _).out, hT0.one rfl hb hn⟩
    exact Owed.last rfl
  case fin =>
    intro l act w1 hl hI
    obtain ⟨X, rfl, hX, hT⟩ := hI
    have h0 : X 0 = .pointer (some ⟨b, 0, none⟩) := hX 0 (hl 0 (by kernel_rfl)) (by kernel_rfl)
    have h1 : X 1 = .pointer (some ⟨b, 0, none⟩) := hX 1 (hl 1 (by kernel_rfl)) (by kernel_rfl)
    have h2 : X 2 = .pointer (some ⟨b, 0, none⟩) := hX 2 (hl 2 (by kernel_rfl)) (by kernel_rfl)
    have h3 : X 3 = .int .i64 (N.n : Nat) := hX 3 (hl 3 (by kernel_rfl)) (by kernel_rfl)
    have h4 : X 4 = .int .i64 (((N.n : Nat) : Int) / 64) := hX 4 (hl 4 (by kernel_rfl)) (by kernel_rfl)
    have h5 : X 5 = .pointer (some ⟨b, 0, none⟩) := hX 5 (hl 5 (by kernel_rfl)) (by kernel_rfl)
    have h6 : X 6 = .pointer (some ⟨b, 0, none⟩) := hX 6 (hl 6 (by kernel_rfl)) (by kernel_rfl)
    have h7 : X 7 = .pointer (some ⟨b, 0, none⟩) := hX 7 (hl 7 (by kernel_rfl)) (by kernel_rfl)
    have h8 : X 8 = .int .i64 (N.n : Nat) := hX 8 (hl 8 (by kernel_rfl)) (by kernel_rfl)
    have h9 : X 9 = .int .i64 (((N.n : Nat) : Int) % 64) := hX 9 (hl 9 (by kernel_rfl)) (by kernel_rfl)
    have h10 : X 10 = .int .u64 (IntKind.u64.wrap ((2 : Int) ^ (N.n % 64))) := hX 10 (hl 10 (by kernel_rfl)) (by kernel_rfl)
    have h11 : X 11 = .pointer (some ⟨w.heap.size + 1 + 1, N.n / 64, none⟩) := hX 11 (hl 11 (by kernel_rfl)) (by kernel_rfl)
    rw [h0, h1, h2, h3, h4, h5, h6, h7, h8, h9, h10, h11]
    clear h0 h1 h2 h3 h4 h5 h6 h7 h8 h9 h10 h11 hX
    have hT1 := hT
    rw [show l 12 = true from hl 12 (by kernel_rfl)] at hT1
    have HT := Lib.hid hT1
    clear hT hT1 hl X S0
    have ck := HT.out.1.count
    have fk : w1.frozen? ⟨b, 0, none⟩ = false := frozen_of_row w1 _ _ _ 94 HT.out.1.1
    have v0 := HT.out.vw 0 (by omega)
    have v1 := HT.out.vw 1 (by omega)
    have v2 := HT.out.vw 2 (by omega)
    have v3 := HT.out.vw 3 (by omega)
    go_wp2_with fail
    refine (hM.out _).mono ?_
    rintro _ w2 ⟨rfl, hb2⟩
    have H2 := Lib.hid ((HT.out.put hb _ (putA_n N)).up hb2)
    clear hb2 HT ck fk v0 v1 v2 v3
    have hcv := Lib.run_convert_string_bytes (P := Tryd.prog) w2 9 159 5 ⟨G.toArray⟩ Tryd.underlying9 Tryd.underlying159 Tryd.underlying5
    have HB := Lib.hid (H2.out.up (below_bytes w2 ⟨G.toArray⟩))
    have hAY : w.heap.size ≤ w2.heap.size := H2.out.1.2.1.size
    obtain ⟨bc, fz, hbc, hbl⟩ : ∃ bc fz, (Lib.bytesWorld w2 5 ⟨G.toArray⟩).heap[w2.heap.size]? = some (.cells bc 5 fz) ∧ ∀ j (hj : j < G.length), bc[j]? = some (.int .u8 G[j].toNat) := by
      refine ⟨_, _, Lib.bytesWorld_at_new w2 5 ⟨G.toArray⟩, fun j hj => ?_⟩
      simp [Lib.bytesCells, Array.getElem?_append, hj]
    have HBL := Lib.hid hbl
    have SY : Hid (SPy b w.heap.size w2.heap.size bc fz (spotK N G 0) g (oneS N.n) w (Lib.bytesWorld w2 5 ⟨G.toArray⟩)) := Lib.hid (by rw [spotK_zero]; exact ⟨HB.out, hbc⟩)
    clear hbc hbl H2 hM HB
    go_wp2_with (simp only [hcv])
    clear hcv
    generalize w2.heap.size = Y at *
    generalize Lib.bytesWorld w2 5 ⟨G.toArray⟩ = wb at *
    go_loopw [31] (fun i wr => ∃ j : Nat, j ≤ G.length ∧ i = .int .i64 j ∧ Hid (SPy b w.heap.size Y bc fz (spotK N G j) g (oneS N.n) w wr)) (fun i _ => G.length - (intOf i).toNat)
    case atStart => exact ⟨0, by omega, rfl, SY⟩
    case round =>
      obtain ⟨j, hj, rfl, HS⟩ := hrel
      clear SY
      by_cases hlt : j < G.length
      · have hlt' : (j : Int) < ((G.length : Nat) : Int) := by omega
        have cy : wr.cell? ⟨Y, j, none⟩ = some (.int .u8 (G[j].toNat : Nat)) := (cell_of_row wr Y j _ 5 fz HS.out.2).trans (HBL.out j hlt)
        have hPj := Lib.hid (HPt.out j hlt)
        obtain ⟨c, hc⟩ : ∃ c, G[j] = c := ⟨_, rfl⟩
        rw [hc] at cy hPj
        have hcl := c.toNat_lt
        have hcl' : ((c.toNat : Nat) : Int) < 256 := by omega
        clear hc
        go_wp2_with fail
        refine wp_region_owed2 (fun l act w1 => ∃ X : Nat → Value, act = ⟨(List.toArray ((Value.pointer (some { block := b, off := 0 })) :: (vv (wf g)) :: undef :: (Value.pointer (some { block := w.heap.size, off := 0 })) :: (Value.pointer (some { block := w.heap.size + 1, off := 0 })) :: (Value.pointer (some { block := w.heap.size + 1 + 1, off := 0 })) :: undef :: (Value.int IntKind.u8 ↑c.toNat) :: (Value.pointer (some { block := b, off := 0 })) :: (Value.pointer (some { block := b, off := 0 })) :: (Value.pointer (some { block := b, off := 0 })) :: (Value.int IntKind.i64 ↑N.n) :: (Value.int IntKind.i64 (↑N.n / 64)) :: (Value.pointer (some { block := b, off := 0 })) :: (Value.pointer (some { block := b, off := 0 })) :: (Value.pointer (some { block := b, off := 0 })) :: (Value.int IntKind.i64 ↑N.n) :: (Value.int IntKind.i64 (↑N.n % 64)) :: (Value.int IntKind.u64 (IntKind.u64.wrap (2 ^ (N.n % 64)))) :: (Value.pointer (some { block := w.heap.size + 1 + 1, off := N.n / 64 })) :: (Value.pointer (some { block := b, off := 0 })) :: (Value.pointer (some { block := b, off := 0 })) :: (Value.pointer (some { block := b, off := 0 })) :: (Value.int IntKind.i64 ↑N.n) :: (Value.int IntKind.i64 (↑N.n + 1)) :: (Value.pointer (some { block := b, off := 0 })) :: (Value.pointer (some { block := b, off := 0 })) :: (Value.agg #[Value.int IntKind.u64 (wf g 0), Value.int IntKind.u64 (wf g 1), Value.int IntKind.u64 (wf g 2), Value.int IntKind.u64 (wf g 3)]) :: (Value.string { data := G.toArray }) :: (Value.slice (some { block := Y, off := 0 }) G.length (grownCap w2 G.length 0 5)) :: (Value.int IntKind.i64 ↑G.length) :: (Value.int IntKind.i64 ↑j) :: (Value.bool true) :: (Value.pointer (some { block := Y, off := j })) :: (Value.int IntKind.u8 ↑c.toNat) :: X 0 :: X 1 :: X 2 :: X 3 :: X 4 :: X 5 :: X 6 :: X 7 :: X 8 :: X 9 :: X 10 :: X 11 :: X 12 :: (u48) :: undef :: undef :: undef :: [])), []⟩ ∧ (∀ i, l i = true → ([0, 1, 2, 3, 4, 5, 6, 7, 8, 9, 10, 11, 12] : List Nat).contains i = true → X i = (fun z1 => ([.pointer (some ⟨b, 0, none⟩), .int .u8 (c.toNat : Nat), .pointer (some ⟨b, 0, none⟩), .int .u8 (c.toNat : Nat), .pointer (some ⟨b, 0, none⟩), (.pointer (some ⟨b, 1, none⟩)), (.pointer (some ⟨b, 1 + c.toNat * 8, none⟩)), spV (wf ((spotK N G j).has c.toNat)), spV (wf (oneS N.n)), spV (wf (orS ((spotK N G j).has c.toNat) (oneS N.n))), .pointer (some ⟨b, 0, none⟩), (.pointer (some ⟨b, 1, none⟩)), (.pointer (some ⟨b, 1 + c.toNat * 8, none⟩)), undef] : List Value).getD z1 undef) i) ∧ SPy b w.heap.size Y bc fz (bif l 13 then spotK N G (j + 1) else spotK N G j) g (oneS N.n) w w1) (by kernel_rfl) (by kernel_rfl) ⟨(fun i => ([(u35), (u36), (u37), (u38), (u39), (u40), (u41), (u42), (u43), (u44), (u45), (u46), (u47), undef] : List Value).getD i undef), rfl, (fun i h => by cases h), ⟨HS.out.1.drew, HS.out.2⟩⟩ ?stq ?finq
        case stq =>
          go_light
          refine Owed.next (n := 0) (o := ?oq0) ?hoq0 ?hq0 ?hsq0
          case hoq0 => rfl
          case hq0 =>
            intro l act w1 hw hl hI K hK
            obtain ⟨hc, X, rfl, hX, hT⟩ := hI
            have HX := Lib.hid (packsM 0 hX [] (fun _ h => nomatch h))
            clear hX
            rw [if_pos (by rfl)]
            go_wp2_with fail
            exact hK.out _ _ ⟨hc.next hw, fun z0 => bif (0 :: []).contains z0 then (fun z1 => ([.pointer (some ⟨b, 0, none⟩), .int .u8 (c.toNat : Nat), .pointer (some ⟨b, 0, none⟩), .int .u8 (c.toNat : Nat), .pointer (some ⟨b, 0, none⟩), (.pointer (some ⟨b, 1, none⟩)), (.pointer (some ⟨b, 1 + c.toNat * 8, none⟩)), spV (wf ((spotK N G j).has c.toNat)), spV (wf (oneS N.n)), spV (wf (orS ((spotK N G j).has c.toNat) (oneS N.n))), .pointer (some ⟨b, 0, none⟩), (.pointer (some ⟨b, 1, none⟩)), (.pointer (some ⟨b, 1 + c.toNat * 8, none⟩)), undef] : List Value).getD z1 undef) z0 else X z0, rfl, HX.out, hT⟩
          refine Owed.next (n := 1) (o := ?oq1) ?hoq1 ?hq1 ?hsq1
          case hoq1 => rfl
          case hq1 =>
            intro l act w1 hw hl hI K hK
            obtain ⟨hc, X, rfl, hX, hT⟩ := hI
            have HX := Lib.hid (packsM 1 hX [] (fun _ h => nomatch h))
            clear hX
            rw [if_pos (by rfl)]
            go_wp2_with fail
            exact hK.out _ _ ⟨hc.next hw, fun z0 => bif (1 :: []).contains z0 then (fun z1 => ([.pointer (some ⟨b, 0, none⟩), .int .u8 (c.toNat : Nat), .pointer (some ⟨b, 0, none⟩), .int .u8 (c.toNat : Nat), .pointer (some ⟨b, 0, none⟩), (.pointer (some ⟨b, 1, none⟩)), (.pointer (some ⟨b, 1 + c.toNat * 8, none⟩)), spV (wf ((spotK N G j).has c.toNat)), spV (wf (oneS N.n)), spV (wf (orS ((spotK N G j).has c.toNat) (oneS N.n))), .pointer (some ⟨b, 0, none⟩), (.pointer (some ⟨b, 1, none⟩)), (.pointer (some ⟨b, 1 + c.toNat * 8, none⟩)), undef] : List Value).getD z1 undef) z0 else X z0, rfl, HX.out, hT⟩
          refine Owed.next (n := 2) (o := ?oq2) ?hoq2 ?hq2 ?hsq2
          case hoq2 => rfl
          case hq2 =>
            intro l act w1 hw hl hI K hK
            obtain ⟨hc, X, rfl, hX, hT⟩ := hI
            have HX := Lib.hid (packsM 2 hX [] (fun _ h => nomatch h))
            clear hX
            rw [if_pos (by rfl)]
            go_wp2_with fail
            exact hK.out _ _ ⟨hc.next hw, fun z0 => bif (2 :: []).contains z0 then (fun z1 => ([.pointer (some ⟨b, 0, none⟩), .int .u8 (c.toNat : Nat), .pointer (some ⟨b, 0, none⟩), .int .u8 (c.toNat : Nat), .pointer (some ⟨b, 0, none⟩), (.pointer (some ⟨b, 1, none⟩)), (.pointer (some ⟨b, 1 + c.toNat * 8, none⟩)), spV (wf ((spotK N G j).has c.toNat)), spV (wf (oneS N.n)), spV (wf (orS ((spotK N G j).has c.toNat) (oneS N.n))), .pointer (some ⟨b, 0, none⟩), (.pointer (some ⟨b, 1, none⟩)), (.pointer (some ⟨b, 1 + c.toNat * 8, none⟩)), undef] : List Value).getD z1 undef) z0 else X z0, rfl, HX.out, hT⟩
          refine Owed.next (n := 3) (o := ?oq3) ?hoq3 ?hq3 ?hsq3
          case hoq3 => rfl
          case hq3 =>
            intro l act w1 hw hl hI K hK
            obtain ⟨hc, X, rfl, hX, hT⟩ := hI
            have HX := Lib.hid (packsM 3 hX [] (fun _ h => nomatch h))
            clear hX
            rw [if_pos (by rfl)]
            go_wp2_with fail
            exact hK.out _ _ ⟨hc.next hw, fun z0 => bif (3 :: []).contains z0 then (fun z1 => ([.pointer (some ⟨b, 0, none⟩), .int .u8 (c.toNat : Nat), .pointer (some ⟨b, 0, none⟩), .int .u8 (c.toNat : Nat), .pointer (some ⟨b, 0, none⟩), (.pointer (some ⟨b, 1, none⟩)), (.pointer (some ⟨b, 1 + c.toNat * 8, none⟩)), spV (wf ((spotK N G j).has c.toNat)), spV (wf (oneS N.n)), spV (wf (orS ((spotK N G j).has c.toNat) (oneS N.n))), .pointer (some ⟨b, 0, none⟩), (.pointer (some ⟨b, 1, none⟩)), (.pointer (some ⟨b, 1 + c.toNat * 8, none⟩)), undef] : List Value).getD z1 undef) z0 else X z0, rfl, HX.out, hT⟩
          refine Owed.next (n := 4) (o := ?oq4) ?hoq4 ?hq4 ?hsq4
          case hoq4 => rfl
          case hq4 =>
            intro l act w1 hw hl hI K hK
            obtain ⟨hc, X, rfl, hX, hT⟩ := hI
            have h2 : X 2 = .pointer (some ⟨b, 0, none⟩) := hX 2 (hw 2 (by kernel_rfl)) (by kernel_rfl)
            have HX := Lib.hid (packsM 4 hX [2] (List.forall_mem_cons.2 ⟨hw 2 (by kernel_rfl), (fun _ h => nomatch h)⟩))
            clear hX
            rw [h2]
            clear h2
            rw [if_pos (by rfl)]
            go_wp2_with fail
            exact hK.out _ _ ⟨hc.next hw, fun z0 => bif (4 :: [2]).contains z0 then (fun z1 => ([.pointer (some ⟨b, 0, none⟩), .int .u8 (c.toNat : Nat), .pointer (some ⟨b, 0, none⟩), .int .u8 (c.toNat : Nat), .pointer (some ⟨b, 0, none⟩), (.pointer (some ⟨b, 1, none⟩)), (.pointer (some ⟨b, 1 + c.toNat * 8, none⟩)), spV (wf ((spotK N G j).has c.toNat)), spV (wf (oneS N.n)), spV (wf (orS ((spotK N G j).has c.toNat) (oneS N.n))), .pointer (some ⟨b, 0, none⟩), (.pointer (some ⟨b, 1, none⟩)), (.pointer (some ⟨b, 1 + c.toNat * 8, none⟩)), undef] : List Value).getD z1 undef) z0 else X z0, rfl, HX.out, hT⟩
          refine Owed.next (n := 5) (o := ?oq5) ?hoq5 ?hq5 ?hsq5
          case hoq5 => rfl
          case hq5 =>
            intro l act w1 hw hl hI K hK
            obtain ⟨hc, X, rfl, hX, hT⟩ := hI
            have h4 : X 4 = .pointer (some ⟨b, 0, none⟩) := hX 4 (hw 4 (by kernel_rfl)) (by kernel_rfl)
            have HX := Lib.hid (packsM 5 hX [4] (List.forall_mem_cons.2 ⟨hw 4 (by kernel_rfl), (fun _ h => nomatch h)⟩))
            clear hX
            rw [h4]
            clear h4
            rw [if_pos (by rfl)]
            go_wp2_with fail
            exact hK.out _ _ ⟨hc.next hw, fun z0 => bif (5 :: [4]).contains z0 then (fun z1 => ([.pointer (some ⟨b, 0, none⟩), .int .u8 (c.toNat : Nat), .pointer (some ⟨b, 0, none⟩), .int .u8 (c.toNat : Nat), .pointer (some ⟨b, 0, none⟩), (.pointer (some ⟨b, 1, none⟩)), (.pointer (some ⟨b, 1 + c.toNat * 8, none⟩)), spV (wf ((spotK N G j).has c.toNat)), spV (wf (oneS N.n)), spV (wf (orS ((spotK N G j).has c.toNat) (oneS N.n))), .pointer (some ⟨b, 0, none⟩), (.pointer (some ⟨b, 1, none⟩)), (.pointer (some ⟨b, 1 + c.toNat * 8, none⟩)), undef] : List Value).getD z1 undef) z0 else X z0, rfl, HX.out, hT⟩
          refine Owed.next (n := 6) (o := ?oq6) ?hoq6 ?hq6 ?hsq6
          case hoq6 => rfl
          case hq6 =>
            intro l act w1 hw hl hI K hK
            obtain ⟨hc, X, rfl, hX, hT⟩ := hI
            have h5 : X 5 = (.pointer (some ⟨b, 1, none⟩)) := hX 5 (hw 5 (by kernel_rfl)) (by kernel_rfl)
            have h3 : X 3 = .int .u8 (c.toNat : Nat) := hX 3 (hw 3 (by kernel_rfl)) (by kernel_rfl)
            have HX := Lib.hid (packsM 6 hX [5, 3] (List.forall_mem_cons.2 ⟨hw 5 (by kernel_rfl), (List.forall_mem_cons.2 ⟨hw 3 (by kernel_rfl), (fun _ h => nomatch h)⟩)⟩))
            clear hX
            rw [h5, h3]
            clear h5 h3
            rw [if_pos (by rfl)]
            go_wp2_with fail
            exact hK.out _ _ ⟨hc.next hw, fun z0 => bif (6 :: [5, 3]).contains z0 then (fun z1 => ([.pointer (some ⟨b, 0, none⟩), .int .u8 (c.toNat : Nat), .pointer (some ⟨b, 0, none⟩), .int .u8 (c.toNat : Nat), .pointer (some ⟨b, 0, none⟩), (.pointer (some ⟨b, 1, none⟩)), (.pointer (some ⟨b, 1 + c.toNat * 8, none⟩)), spV (wf ((spotK N G j).has c.toNat)), spV (wf (oneS N.n)), spV (wf (orS ((spotK N G j).has c.toNat) (oneS N.n))), .pointer (some ⟨b, 0, none⟩), (.pointer (some ⟨b, 1, none⟩)), (.pointer (some ⟨b, 1 + c.toNat * 8, none⟩)), undef] : List Value).getD z1 undef) z0 else X z0, rfl, HX.out, hT⟩
          refine Owed.next (n := 7) (o := ?oq7) ?hoq7 ?hq7 ?hsq7
          case hoq7 => rfl
          case hq7 =>
            intro l act w1 hw hl hI K hK
            obtain ⟨hc, X, rfl, hX, hT⟩ := hI
            have h6 : X 6 = (.pointer (some ⟨b, 1 + c.toNat * 8, none⟩)) := hX 6 (hw 6 (by kernel_rfl)) (by kernel_rfl)
            have HX := Lib.hid (packsM 7 hX [6] (List.forall_mem_cons.2 ⟨hw 6 (by kernel_rfl), (fun _ h => nomatch h)⟩))
            clear hX
            have h13 : l 13 = false := by
              cases h : l 13 with
              | false => rfl
              | true =>
                have := hc 9 (hc 13 h 9 (by kernel_rfl)) 7 (by kernel_rfl)
                rw [hl] at this
                cases this
            have hT0 := hT
            rw [h13] at hT0
            rw [h6]
            clear h6
            rw [if_pos (by rfl)]
            refine wp_load_sp (.tmp 41) rfl b (1 + c.toNat * 8) rfl ((spotK N G j).has c.toNat) (hT0.1.1.hasAt c.toNat (by omega)) ?_
            exact hK.out _ _ ⟨hc.next hw, fun z0 => bif (7 :: [6]).contains z0 then (fun z1 => ([.pointer (some ⟨b, 0, none⟩), .int .u8 (c.toNat : Nat), .pointer (some ⟨b, 0, none⟩), .int .u8 (c.toNat : Nat), .pointer (some ⟨b, 0, none⟩), (.pointer (some ⟨b, 1, none⟩)), (.pointer (some ⟨b, 1 + c.toNat * 8, none⟩)), spV (wf ((spotK N G j).has c.toNat)), spV (wf (oneS N.n)), spV (wf (orS ((spotK N G j).has c.toNat) (oneS N.n))), .pointer (some ⟨b, 0, none⟩), (.pointer (some ⟨b, 1, none⟩)), (.pointer (some ⟨b, 1 + c.toNat * 8, none⟩)), undef] : List Value).getD z1 undef) z0 else X z0, rfl, HX.out, hT⟩
          refine Owed.next (n := 8) (o := ?oq8) ?hoq8 ?hq8 ?hsq8
          case hoq8 => rfl
          case hq8 =>
            intro l act w1 hw hl hI K hK
            obtain ⟨hc, X, rfl, hX, hT⟩ := hI
            have HX := Lib.hid (packsM 8 hX [] (fun _ h => nomatch h))
            clear hX
            rw [if_pos (by rfl)]
            refine wp_load_sp (.tmp 5) rfl (w.heap.size + 1 + 1) 0 rfl (oneS N.n) (row8_range hT.1.2.2.2) ?_
            exact hK.out _ _ ⟨hc.next hw, fun z0 => bif (8 :: []).contains z0 then (fun z1 => ([.pointer (some ⟨b, 0, none⟩), .int .u8 (c.toNat : Nat), .pointer (some ⟨b, 0, none⟩), .int .u8 (c.toNat : Nat), .pointer (some ⟨b, 0, none⟩), (.pointer (some ⟨b, 1, none⟩)), (.pointer (some ⟨b, 1 + c.toNat * 8, none⟩)), spV (wf ((spotK N G j).has c.toNat)), spV (wf (oneS N.n)), spV (wf (orS ((spotK N G j).has c.toNat) (oneS N.n))), .pointer (some ⟨b, 0, none⟩), (.pointer (some ⟨b, 1, none⟩)), (.pointer (some ⟨b, 1 + c.toNat * 8, none⟩)), undef] : List Value).getD z1 undef) z0 else X z0, rfl, HX.out, hT⟩
          refine Owed.next (n := 9) (o := ?oq9) ?hoq9 ?hq9 ?hsq9
          case hoq9 => rfl
          case hq9 =>
            intro l act w1 hw hl hI K hK
            obtain ⟨hc, X, rfl, hX, hT⟩ := hI
            have h7 : X 7 = spV (wf ((spotK N G j).has c.toNat)) := hX 7 (hw 7 (by kernel_rfl)) (by kernel_rfl)
            have h8 : X 8 = spV (wf (oneS N.n)) := hX 8 (hw 8 (by kernel_rfl)) (by kernel_rfl)
            have HX := Lib.hid (packsM 9 hX [7, 8] (List.forall_mem_cons.2 ⟨hw 7 (by kernel_rfl), (List.forall_mem_cons.2 ⟨hw 8 (by kernel_rfl), (fun _ h => nomatch h)⟩)⟩))
            clear hX
            rw [h7, h8]
            clear h7 h8
            rw [if_pos (by rfl)]
            go_wp2_with fail
            refine (either_any _ _ _).mono ?_
            rintro _ w2 ⟨rfl, hb⟩
            exact hK.out _ _ ⟨hc.next hw, fun z0 => bif (9 :: [7, 8]).contains z0 then (fun z1 => ([.pointer (some ⟨b, 0, none⟩), .int .u8 (c.toNat : Nat), .pointer (some ⟨b, 0, none⟩), .int .u8 (c.toNat : Nat), .pointer (some ⟨b, 0, none⟩), (.pointer (some ⟨b, 1, none⟩)), (.pointer (some ⟨b, 1 + c.toNat * 8, none⟩)), spV (wf ((spotK N G j).has c.toNat)), spV (wf (oneS N.n)), spV (wf (orS ((spotK N G j).has c.toNat) (oneS N.n))), .pointer (some ⟨b, 0, none⟩), (.pointer (some ⟨b, 1, none⟩)), (.pointer (some ⟨b, 1 + c.toNat * 8, none⟩)), undef] : List Value).getD z1 undef) z0 else X z0, rfl, HX.out, hT.up hb⟩
          refine Owed.next (n := 10) (o := ?oq10) ?hoq10 ?hq10 ?hsq10
          case hoq10 => rfl
          case hq10 =>
            intro l act w1 hw hl hI K hK
            obtain ⟨hc, X, rfl, hX, hT⟩ := hI
            have h0 : X 0 = .pointer (some ⟨b, 0, none⟩) := hX 0 (hw 0 (by kernel_rfl)) (by kernel_rfl)
            have HX := Lib.hid (packsM 10 hX [0] (List.forall_mem_cons.2 ⟨hw 0 (by kernel_rfl), (fun _ h => nomatch h)⟩))
            clear hX
            rw [h0]
            clear h0
            rw [if_pos (by rfl)]
            go_wp2_with fail
            exact hK.out _ _ ⟨hc.next hw, fun z0 => bif (10 :: [0]).contains z0 then (fun z1 => ([.pointer (some ⟨b, 0, none⟩), .int .u8 (c.toNat : Nat), .pointer (some ⟨b, 0, none⟩), .int .u8 (c.toNat : Nat), .pointer (some ⟨b, 0, none⟩), (.pointer (some ⟨b, 1, none⟩)), (.pointer (some ⟨b, 1 + c.toNat * 8, none⟩)), spV (wf ((spotK N G j).has c.toNat)), spV (wf (oneS N.n)), spV (wf (orS ((spotK N G j).has c.toNat) (oneS N.n))), .pointer (some ⟨b, 0, none⟩), (.pointer (some ⟨b, 1, none⟩)), (.pointer (some ⟨b, 1 + c.toNat * 8, none⟩)), undef] : List Value).getD z1 undef) z0 else X z0, rfl, HX.out, hT⟩
          refine Owed.next (n := 11) (o := ?oq11) ?hoq11 ?hq11 ?hsq11
          case hoq11 => rfl
          case hq11 =>
            intro l act w1 hw hl hI K hK
            obtain ⟨hc, X, rfl, hX, hT⟩ := hI
            have h10 : X 10 = .pointer (some ⟨b, 0, none⟩) := hX 10 (hw 10 (by kernel_rfl)) (by kernel_rfl)
            have HX := Lib.hid (packsM 11 hX [10] (List.forall_mem_cons.2 ⟨hw 10 (by kernel_rfl), (fun _ h => nomatch h)⟩))
            clear hX
            rw [h10]
            clear h10
            rw [if_pos (by rfl)]
            go_wp2_with fail
            exact hK.out _ _ ⟨hc.next hw, fun z0 => bif (11 :: [10]).contains z0 then (fun z1 => ([.pointer (some ⟨b, 0, none⟩), .int .u8 (c.toNat : Nat), .pointer (some ⟨b, 0, none⟩), .int .u8 (c.toNat : Nat), .pointer (some ⟨b, 0, none⟩), (.pointer (some ⟨b, 1, none⟩)), (.pointer (some ⟨b, 1 + c.toNat * 8, none⟩)), spV (wf ((spotK N G j).has c.toNat)), spV (wf (oneS N.n)), spV (wf (orS ((spotK N G j).has c.toNat) (oneS N.n))), .pointer (some ⟨b, 0, none⟩), (.pointer (some ⟨b, 1, none⟩)), (.pointer (some ⟨b, 1 + c.toNat * 8, none⟩)), undef] : List Value).getD z1 undef) z0 else X z0, rfl, HX.out, hT⟩
          refine Owed.next (n := 12) (o := ?oq12) ?hoq12 ?hq12 ?hsq12
          case hoq12 => rfl
          case hq12 =>
            intro l act w1 hw hl hI K hK
            obtain ⟨hc, X, rfl, hX, hT⟩ := hI
            have h11 : X 11 = (.pointer (some ⟨b, 1, none⟩)) := hX 11 (hw 11 (by kernel_rfl)) (by kernel_rfl)
            have h1 : X 1 = .int .u8 (c.toNat : Nat) := hX 1 (hw 1 (by kernel_rfl)) (by kernel_rfl)
            have HX := Lib.hid (packsM 12 hX [11, 1] (List.forall_mem_cons.2 ⟨hw 11 (by kernel_rfl), (List.forall_mem_cons.2 ⟨hw 1 (by kernel_rfl), (fun _ h => nomatch h)⟩)⟩))
            clear hX
            rw [h11, h1]
            clear h11 h1
            rw [if_pos (by rfl)]
            go_wp2_with fail
            exact hK.out _ _ ⟨hc.next hw, fun z0 => bif (12 :: [11, 1]).contains z0 then (fun z1 => ([.pointer (some ⟨b, 0, none⟩), .int .u8 (c.toNat : Nat), .pointer (some ⟨b, 0, none⟩), .int .u8 (c.toNat : Nat), .pointer (some ⟨b, 0, none⟩), (.pointer (some ⟨b, 1, none⟩)), (.pointer (some ⟨b, 1 + c.toNat * 8, none⟩)), spV (wf ((spotK N G j).has c.toNat)), spV (wf (oneS N.n)), spV (wf (orS ((spotK N G j).has c.toNat) (oneS N.n))), .pointer (some ⟨b, 0, none⟩), (.pointer (some ⟨b, 1, none⟩)), (.pointer (some ⟨b, 1 + c.toNat * 8, none⟩)), undef] : List Value).getD z1 undef) z0 else X z0, rfl, HX.out, hT⟩
          refine Owed.next (n := 13) (o := ?oq13) ?hoq13 ?hq13 ?hsq13
          case hoq13 => rfl
          case hq13 =>
            intro l act w1 hw hl hI K hK
            obtain ⟨hc, X, rfl, hX, hT⟩ := hI
            have h12 : X 12 = (.pointer (some ⟨b, 1 + c.toNat * 8, none⟩)) := hX 12 (hw 12 (by kernel_rfl)) (by kernel_rfl)
            have h9 : X 9 = spV (wf (orS ((spotK N G j).has c.toNat) (oneS N.n))) := hX 9 (hw 9 (by kernel_rfl)) (by kernel_rfl)
            have HX := fun v => Lib.hid (packsN 13 v hX (by kernel_rfl) [12, 9] (List.forall_mem_cons.2 ⟨hw 12 (by kernel_rfl), (List.forall_mem_cons.2 ⟨hw 9 (by kernel_rfl), (fun _ h => nomatch h)⟩)⟩))
            clear hX
            rw [h12, h9]
            clear h12 h9
            rw [if_pos (by rfl)]
            have h13 : l 13 = false := hl
            have hT0 := hT
            rw [h13] at hT0
            refine wp_store_sp (.tmp 47) (.tmp 44) rfl b (1 + c.toNat * 8) (orS ((spotK N G j).has c.toNat) (oneS N.n)) rfl rfl (hT0.1.1.there _ 8 (by omega)) ?_
            exact hK.out _ _ ⟨hc.next hw, fun z0 => bif [13].contains z0 then undef else bif ([12, 9] : List Nat).contains z0 then (fun z1 => ([.pointer (some ⟨b, 0, none⟩), .int .u8 (c.toNat : Nat), .pointer (some ⟨b, 0, none⟩), .int .u8 (c.toNat : Nat), .pointer (some ⟨b, 0, none⟩), (.pointer (some ⟨b, 1, none⟩)), (.pointer (some ⟨b, 1 + c.toNat * 8, none⟩)), spV (wf ((spotK N G j).has c.toNat)), spV (wf (oneS N.n)), spV (wf (orS ((spotK N G j).has c.toNat) (oneS N.n))), .pointer (some ⟨b, 0, none⟩), (.pointer (some ⟨b, 1, none⟩)), (.pointer (some ⟨b, 1 + c.toNat * 8, none⟩)), undef] : List Value).getD z1 undef) z0 else X z0, rfl, (HX _).out, hT0.put hb hAY _ hPj.out⟩
          exact Owed.last rfl
        case finq =>
          intro l act w1 hl hI
          obtain ⟨X, rfl, hX, hT⟩ := hI
          have h0 : X 0 = .pointer (some ⟨b, 0, none⟩) := hX 0 (hl 0 (by kernel_rfl)) (by kernel_rfl)
          have h1 : X 1 = .int .u8 (c.toNat : Nat) := hX 1 (hl 1 (by kernel_rfl)) (by kernel_rfl)
          have h2 : X 2 = .pointer (some ⟨b, 0, none⟩) := hX 2 (hl 2 (by kernel_rfl)) (by kernel_rfl)
          have h3 : X 3 = .int .u8 (c.toNat : Nat) := hX 3 (hl 3 (by kernel_rfl)) (by kernel_rfl)
          have h4 : X 4 = .pointer (some ⟨b, 0, none⟩) := hX 4 (hl 4 (by kernel_rfl)) (by kernel_rfl)
          have h5 : X 5 = (.pointer (some ⟨b, 1, none⟩)) := hX 5 (hl 5 (by kernel_rfl)) (by kernel_rfl)
          have h6 : X 6 = (.pointer (some ⟨b, 1 + c.toNat * 8, none⟩)) := hX 6 (hl 6 (by kernel_rfl)) (by kernel_rfl)
          have h7 : X 7 = spV (wf ((spotK N G j).has c.toNat)) := hX 7 (hl 7 (by kernel_rfl)) (by kernel_rfl)
          have h8 : X 8 = spV (wf (oneS N.n)) := hX 8 (hl 8 (by kernel_rfl)) (by kernel_rfl)
          have h9 : X 9 = spV (wf (orS ((spotK N G j).has c.toNat) (oneS N.n))) := hX 9 (hl 9 (by kernel_rfl)) (by kernel_rfl)
          have h10 : X 10 = .pointer (some ⟨b, 0, none⟩) := hX 10 (hl 10 (by kernel_rfl)) (by kernel_rfl)
          have h11 : X 11 = (.pointer (some ⟨b, 1, none⟩)) := hX 11 (hl 11 (by kernel_rfl)) (by kernel_rfl)
          have h12 : X 12 = (.pointer (some ⟨b, 1 + c.toNat * 8, none⟩)) := hX 12 (hl 12 (by kernel_rfl)) (by kernel_rfl)
          rw [h0, h1, h2, h3, h4, h5, h6, h7, h8, h9, h10, h11, h12]
          clear h0 h1 h2 h3 h4 h5 h6 h7 h8 h9 h10 h11 h12 hX
          have hT1 := hT
          rw [show l 13 = true from hl 13 (by kernel_rfl)] at hT1
          have HT := Lib.hid hT1
          clear hT hT1 hl X
          go_wp2_with fail
          go_roundw
          case rel => exact ⟨j + 1, by omega, by go_num, HT⟩
          case measure => simp [intOf]; omega
      · obtain rfl : j = G.length := by omega
        have hlt' : ¬ ((G.length : Nat) : Int) < ((G.length : Nat) : Int) := by omega
        have HK := Lib.hid (HS.out.1.1.congr SE.out)
        have e0 : wr.cell? ⟨w.heap.size + 1 + 1, 0, none⟩ = some (.int .u64 (wf (oneS N.n) 0)) := row8_at HS.out.1.2.2.2 0 (by omega)
        have e1 : wr.cell? ⟨w.heap.size + 1 + 1, 1, none⟩ = some (.int .u64 (wf (oneS N.n) 1)) := row8_at HS.out.1.2.2.2 1 (by omega)
        have e2 : wr.cell? ⟨w.heap.size + 1 + 1, 2, none⟩ = some (.int .u64 (wf (oneS N.n) 2)) := row8_at HS.out.1.2.2.2 2 (by omega)
        have e3 : wr.cell? ⟨w.heap.size + 1 + 1, 3, none⟩ = some (.int .u64 (wf (oneS N.n) 3)) := row8_at HS.out.1.2.2.2 3 (by omega)
        have e4 : wr.cell? ⟨w.heap.size + 1 + 1, 4, none⟩ = some (.int .u64 (wf (oneS N.n) 4)) := row8_at HS.out.1.2.2.2 4 (by omega)
        have e5 : wr.cell? ⟨w.heap.size + 1 + 1, 5, none⟩ = some (.int .u64 (wf (oneS N.n) 5)) := row8_at HS.out.1.2.2.2 5 (by omega)
        have e6 : wr.cell? ⟨w.heap.size + 1 + 1, 6, none⟩ = some (.int .u64 (wf (oneS N.n) 6)) := row8_at HS.out.1.2.2.2 6 (by omega)
        have e7 : wr.cell? ⟨w.heap.size + 1 + 1, 7, none⟩ = some (.int .u64 (wf (oneS N.n) 7)) := row8_at HS.out.1.2.2.2 7 (by omega)
        have z0 : wr.cell? ⟨w.heap.size + 1, 0, none⟩ = some (.bool false) := cell_of_row wr _ 0 _ 96 (0, 0) HS.out.1.2.2.1
        have z1 : wr.cell? ⟨w.heap.size + 1, 1, none⟩ = some (.int .u64 0) := cell_of_row wr _ 1 _ 96 (0, 0) HS.out.1.2.2.1
        have z2 : wr.cell? ⟨w.heap.size + 1, 2, none⟩ = some (.int .u64 0) := cell_of_row wr _ 2 _ 96 (0, 0) HS.out.1.2.2.1
        have z3 : wr.cell? ⟨w.heap.size + 1, 3, none⟩ = some (.int .u64 0) := cell_of_row wr _ 3 _ 96 (0, 0) HS.out.1.2.2.1
        have z4 : wr.cell? ⟨w.heap.size + 1, 4, none⟩ = some (.int .u64 0) := cell_of_row wr _ 4 _ 96 (0, 0) HS.out.1.2.2.1
        have z5 : wr.cell? ⟨w.heap.size + 1, 5, none⟩ = some (.int .u64 0) := cell_of_row wr _ 5 _ 96 (0, 0) HS.out.1.2.2.1
        have z6 : wr.cell? ⟨w.heap.size + 1, 6, none⟩ = some (.int .u64 0) := cell_of_row wr _ 6 _ 96 (0, 0) HS.out.1.2.2.1
        have z7 : wr.cell? ⟨w.heap.size + 1, 7, none⟩ = some (.int .u64 0) := cell_of_row wr _ 7 _ 96 (0, 0) HS.out.1.2.2.1
        have z8 : wr.cell? ⟨w.heap.size + 1, 8, none⟩ = some (.int .u64 0) := cell_of_row wr _ 8 _ 96 (0, 0) HS.out.1.2.2.1
        have z9 : wr.cell? ⟨w.heap.size + 1, 9, none⟩ = some (.int .u64 0) := cell_of_row wr _ 9 _ 96 (0, 0) HS.out.1.2.2.1
        have z10 : wr.cell? ⟨w.heap.size + 1, 10, none⟩ = some (.int .u64 0) := cell_of_row wr _ 10 _ 96 (0, 0) HS.out.1.2.2.1
        have z11 : wr.cell? ⟨w.heap.size + 1, 11, none⟩ = some (.int .u64 0) := cell_of_row wr _ 11 _ 96 (0, 0) HS.out.1.2.2.1
        have z12 : wr.cell? ⟨w.heap.size + 1, 12, none⟩ = some (.int .u64 0) := cell_of_row wr _ 12 _ 96 (0, 0) HS.out.1.2.2.1
        have z13 : wr.cell? ⟨w.heap.size + 1, 13, none⟩ = some (.int .u64 0) := cell_of_row wr _ 13 _ 96 (0, 0) HS.out.1.2.2.1
        have z14 : wr.cell? ⟨w.heap.size + 1, 14, none⟩ = some (.int .u64 0) := cell_of_row wr _ 14 _ 96 (0, 0) HS.out.1.2.2.1
        have z15 : wr.cell? ⟨w.heap.size + 1, 15, none⟩ = some (.int .u64 0) := cell_of_row wr _ 15 _ 96 (0, 0) HS.out.1.2.2.1
        have z16 : wr.cell? ⟨w.heap.size + 1, 16, none⟩ = some (.int .u64 0) := cell_of_row wr _ 16 _ 96 (0, 0) HS.out.1.2.2.1
        have y0 : wr.frozen? ⟨w.heap.size + 1, 0, none⟩ = false := frozen_of_row wr _ _ _ 96 HS.out.1.2.2.1
        have y1 : wr.frozen? ⟨w.heap.size + 1, 1, none⟩ = false := frozen_of_row wr _ _ _ 96 HS.out.1.2.2.1
        have y2 : wr.frozen? ⟨w.heap.size + 1, 2, none⟩ = false := frozen_of_row wr _ _ _ 96 HS.out.1.2.2.1
        have y3 : wr.frozen? ⟨w.heap.size + 1, 3, none⟩ = false := frozen_of_row wr _ _ _ 96 HS.out.1.2.2.1
        have y4 : wr.frozen? ⟨w.heap.size + 1, 4, none⟩ = false := frozen_of_row wr _ _ _ 96 HS.out.1.2.2.1
        have y5 : wr.frozen? ⟨w.heap.size + 1, 5, none⟩ = false := frozen_of_row wr _ _ _ 96 HS.out.1.2.2.1
        have y6 : wr.frozen? ⟨w.heap.size + 1, 6, none⟩ = false := frozen_of_row wr _ _ _ 96 HS.out.1.2.2.1
        have y7 : wr.frozen? ⟨w.heap.size + 1, 7, none⟩ = false := frozen_of_row wr _ _ _ 96 HS.out.1.2.2.1
        have y8 : wr.frozen? ⟨w.heap.size + 1, 8, none⟩ = false := frozen_of_row wr _ _ _ 96 HS.out.1.2.2.1
        have y9 : wr.frozen? ⟨w.heap.size + 1, 9, none⟩ = false := frozen_of_row wr _ _ _ 96 HS.out.1.2.2.1
        have y10 : wr.frozen? ⟨w.heap.size + 1, 10, none⟩ = false := frozen_of_row wr _ _ _ 96 HS.out.1.2.2.1
        have y11 : wr.frozen? ⟨w.heap.size + 1, 11, none⟩ = false := frozen_of_row wr _ _ _ 96 HS.out.1.2.2.1
        have y12 : wr.frozen? ⟨w.heap.size + 1, 12, none⟩ = false := frozen_of_row wr _ _ _ 96 HS.out.1.2.2.1
        have y13 : wr.frozen? ⟨w.heap.size + 1, 13, none⟩ = false := frozen_of_row wr _ _ _ 96 HS.out.1.2.2.1
        have y14 : wr.frozen? ⟨w.heap.size + 1, 14, none⟩ = false := frozen_of_row wr _ _ _ 96 HS.out.1.2.2.1
        have y15 : wr.frozen? ⟨w.heap.size + 1, 15, none⟩ = false := frozen_of_row wr _ _ _ 96 HS.out.1.2.2.1
        have y16 : wr.frozen? ⟨w.heap.size + 1, 16, none⟩ = false := frozen_of_row wr _ _ _ 96 HS.out.1.2.2.1
        go_wp2_with fail
        refine bodyPost_ret (v := .agg (prtA ⟨false, oneS N.n, oneS N.n⟩)) (by simp [prtA, results, Tryd.results83, go_sem, e0, e1, e2, e3, e4, e5, e6, e7, z0, z1, z2, z3, z4, z5, z6, z7, z8, z9, z10, z11, z12, z13, z14, z15, z16, y0, y1, y2, y3, y4, y5, y6, y7, y8, y9, y10, y11, y12, y13, y14, y15, y16]) rfl ⟨rfl, ?_⟩
        exact HK.out.set (g := w.heap.size + 1) (o := 0) hb (by omega) (prtA ⟨false, oneS N.n, oneS N.n⟩).toList
end Go.Proofs.YthglciccejholaaDoor.R5
