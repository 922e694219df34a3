/- Texts of package regs, one behind the other. -/
import Derived.Test.YtmjojahkbjlcdaaDoorProg
import Derived.Test.YtmjojahkbjlcdaaDoorX3
import Derived.Test.YtmjojahkbjlcdaaDoorX4
import Derived.WalkKit
import Derived.WalkLawsBesides
import Derived.WalkSpells
import Derived.Outline
import Derived.Lib.Walk
import Derived.Lib.Hide
import Derived.RegionTactic
import Derived.LoopTactic
import Derived.Below
import Derived.IntWalk
import Derived.Deep.QuietTactic
import Derived.BigQuiet
import Derived.Test.YtmjojahkbjlcdaaDoorG46
import Derived.Test.YtmjojahkbjlcdaaDoorX16
import Derived.Deep.Cut
import Derived.Deep.CutRange
import Derived.Test.YtmjojahkbjlcdaaDoorG15
section
/- Package regs: the reader's small steps: what comes next. -/
namespace Go.Proofs.YtmjojahkbjlcdaaDoor
set_option linter.unusedSimpArgs false
set_option linter.unusedVariables false
set_option maxRecDepth 100000
open Go.RowKit

theorem runS_pth {M : Net} {l : Nat → Bool} (hs : ∀ c j, M.has c j = true → j < 512) : ∀ (cs : List UInt8) (S : Nat → Bool), (∀ i, S i = true → i < 512) →
    ((∃ q, runS M S cs q = true ∧ l q = true) ↔ ∃ p q, S p = true ∧ Pth (frE 0 M.beh) M.has p cs q ∧ l q = true)
  | [], S, hS => by
    constructor
    · rintro ⟨q, h, g⟩; exact ⟨q, q, h, .nil q, g⟩
    · rintro ⟨p, q, h, k, g⟩; cases k; exact ⟨p, h, g⟩
  | c :: cs, S, hS => by
    have hS' : ∀ i, andS (nxS M S) (M.has c.toNat) i = true → i < 512 := fun i h => by
      simp only [andS, Bool.and_eq_true] at h; exact hs _ _ h.2
    have ih := runS_pth (l := l) hs cs (andS (nxS M S) (M.has c.toNat)) hS'
    rw [runS, ih]
    constructor
    · rintro ⟨p, q, h, k, g⟩
      simp only [andS, Bool.and_eq_true] at h
      obtain ⟨i, hi, hp⟩ := List.any_eq_true.1 h.1
      simp only [Bool.and_eq_true] at hp
      exact ⟨i, q, hp.1, .cons (by simp [frE, hp.2]) h.2 k, g⟩
    · rintro ⟨p, q, h, k, g⟩
      cases k with
      | @cons _ r _ _ _ h1 h2 k =>
        simp only [frE, Nat.zero_le, decide_true, Bool.true_and] at h1
        exact ⟨r, q, by simp only [andS, Bool.and_eq_true]; exact ⟨List.any_eq_true.2 ⟨p, List.mem_range.2 (hS p h), by simp [h, h1]⟩, h2⟩, k, g⟩
/-- What is told of a pattern that may be is what it matches. -/
theorem matB_ok {t : RT} (hm : mayB t = true) (hn : sz t ≤ 512) (x : List UInt8) : matB t x = true ↔ Lg t x := by
  have h := lay_ok t N0 hm wfn0
  have hln := lay_n t N0
  have h0 : N0.n = 0 := rfl
  rw [h.acc (layN t N0).1.has (fun _ _ _ _ => rfl) x]
  cases x with
  | nil =>
    show (layN t N0).2.e = true ↔ _
    constructor
    · intro e; exact .inl ⟨rfl, e⟩
    · rintro (⟨_, e⟩ | ⟨c, x, p, q, e, _⟩)
      · exact e
      · cases e
  | cons c cs =>
    show nzS (andS (runS (layN t N0).1 (andS (layN t N0).2.f ((layN t N0).1.has c.toNat)) cs) (layN t N0).2.l) = true ↔ _
    have hs : ∀ c j, (layN t N0).1.has c j = true → j < 512 := fun c j e => by have := h.wf.hs c j e; omega
    have key := runS_pth (l := (layN t N0).2.l) hs cs (andS (layN t N0).2.f ((layN t N0).1.has c.toNat)) (fun i e => by simp only [andS, Bool.and_eq_true] at e; exact hs _ _ e.2)
    constructor
    · intro e
      obtain ⟨q, _, hq⟩ := List.any_eq_true.1 e
      simp only [andS, Bool.and_eq_true] at hq
      obtain ⟨p, q, hp, k, g⟩ := key.1 ⟨q, hq.1, hq.2⟩
      simp only [andS, Bool.and_eq_true] at hp
      exact .inr ⟨c, cs, p, q, rfl, hp.1, hp.2, k, g⟩
    · rintro (⟨e, _⟩ | ⟨c', x, p, q, e, hp, hd, k, g⟩)
      · cases e
      · cases e
        obtain ⟨q', h1, h2⟩ := key.2 ⟨p, q, by simp [andS, hp, hd], k, g⟩
        have := h.l q' h2
        exact List.any_eq_true.2 ⟨q', List.mem_range.2 (by omega), by simp [andS, h1, h2]⟩
def uA (i : Nat) : Int := if i = 1 then 8589934592 else 0
def uB (i : Nat) : Int := if i = 1 then 17179869184 else 0
/-- The pattern that is asked of whoever does something at all. -/
def Tab : RT := .mk 3 u0 [.mk 2 uA [], .mk 5 u0 [.mk 2 uB []]]
theorem tab_check : checkE Tab = 0 := by kernel_rfl
theorem tab_may : mayB Tab = true := by kernel_rfl
theorem tab_sz : sz Tab = 4 := by kernel_rfl
theorem tab_print : prtP Tab = ([97, 98, 42], 0) := by kernel_rfl
theorem tab_ok : okT Tab := by
  have a : okU uA := fun i hi => by rcases (by omega : i = 0 ∨ i = 1 ∨ i = 2 ∨ i = 3) with rfl | rfl | rfl | rfl <;> kernel_rfl
  have b : okU uB := fun i hi => by rcases (by omega : i = 0 ∨ i = 1 ∨ i = 2 ∨ i = 3) with rfl | rfl | rfl | rfl <;> kernel_rfl
  simp [Tab, okT, okL, a, b]
theorem tab_yes : Lg Tab [97, 98, 98] := by
  have hA : Lg (.mk 2 uA []) [97] := by rw [Lg]; simp; decide
  have hB : Lg (.mk 2 uB []) [98] := by rw [Lg]; simp; decide
  have hS : Lg (.mk 5 u0 [.mk 2 uB []]) [98, 98] := by
    rw [Lg, show LgH [.mk 2 uB []] = Lg (.mk 2 uB []) by funext w; rw [LgH]]
    simp
    exact .app (a := [98]) (b := [98]) hB (.app (a := [98]) (b := []) hB .nil)
  rw [Tab, Lg]
  simp
  rw [LgR]
  refine ⟨[97], [98, 98], rfl, hA, ?_⟩
  rw [LgR]
  exact ⟨[98, 98], [], rfl, hS, by rw [LgR]⟩
theorem tab_no : ¬ Lg Tab [98, 97] := by
  rw [Tab, Lg]
  simp
  rw [LgR]
  rintro ⟨a, b, e, h, _⟩
  rw [Lg] at h
  simp at h
  obtain ⟨c, rfl, hc⟩ := h
  simp at e
  obtain ⟨rfl, _⟩ := e
  revert hc
  decide
theorem tab_m1 : mtP Tab [97, 98, 98] = (true, 0) := by
  unfold mtP
  rw [if_neg (by rw [tab_check]; decide), if_neg (by decide), (matB_ok tab_may (by rw [tab_sz]; decide) _).2 tab_yes]
theorem tab_m2 : mtP Tab [98, 97] = (false, 0) := by
  unfold mtP
  rw [if_neg (by rw [tab_check]; decide), if_neg (by decide)]
  have : matB Tab [98, 97] = false := by
    cases h : matB Tab [98, 97] with
    | false => rfl
    | true => exact absurd ((matB_ok tab_may (by rw [tab_sz]; decide) _).1 h) tab_no
  rw [this]
theorem parse_ab : ∃ ua ub, wholeF [97, 98, 42] = .ok (.mk 3 u0 [.mk 2 ua [], .mk 5 u0 [.mk 2 ub []]]) ∧ ∀ i, i < 4 → ua i = uA i ∧ ub i = uB i := by
  refine ⟨_, _, rfl, fun i hi => ?_⟩
  rcases (by omega : i = 0 ∨ i = 1 ∨ i = 2 ∨ i = 3) with rfl | rfl | rfl | rfl <;> exact ⟨by kernel_rfl, by kernel_rfl⟩
theorem parse_a1 : wholeF [97, 41] = .error [41] := by kernel_rfl
end Go.Proofs.YtmjojahkbjlcdaaDoor
end
section
/- Package regs: the reader's small steps: what comes next. -/
namespace Go.Proofs.YtmjojahkbjlcdaaDoor
set_option linter.unusedSimpArgs false
set_option linter.unusedVariables false
set_option maxRecDepth 100000
open Go.RowKit

set_option maxHeartbeats 4000000 in
theorem set_97 (w : World) : Calls Tryd.prog 33 #[.int .u8 97] w fun e w' => e = .returned (.agg #[.int .i64 2, .int .u64 (uA 0), .int .u64 (uA 1), .int .u64 (uA 2), .int .u64 (uA 3), .slice none 0 0]) ∧ Below w.heap.size w w' := by
  have hz := zero27l
  go_enter Tryd.func33, Tryd.ntmps33
  go_wp2
  refine bodyPost_ret (v := _) (by simp [results, Tryd.results33, go_sem, uA]) rfl ⟨rfl, ?_⟩
  exact ((Below.refl _ _).alloc (Nat.le_refl _) _).alloc (by simp) _
set_option maxHeartbeats 4000000 in
theorem set_98 (w : World) : Calls Tryd.prog 33 #[.int .u8 98] w fun e w' => e = .returned (.agg #[.int .i64 2, .int .u64 (uB 0), .int .u64 (uB 1), .int .u64 (uB 2), .int .u64 (uB 3), .slice none 0 0]) ∧ Below w.heap.size w w' := by
  have hz := zero27l
  go_enter Tryd.func33, Tryd.ntmps33
  go_wp2
  refine bodyPost_ret (v := _) (by simp [results, Tryd.results33, go_sem, uB]) rfl ⟨rfl, ?_⟩
  exact ((Below.refl _ _).alloc (Nat.le_refl _) _).alloc (by simp) _
theorem parse_abP {ua ub : Nat → Int} (h : wholeF [97, 98, 42] = .ok (.mk 3 u0 [.mk 2 ua [], .mk 5 u0 [.mk 2 ub []]])) (w : World) : Calls Tryd.prog 21 #[.string ⟨#[97, 98, 42]⟩] w (ParsedP (.mk 3 u0 [.mk 2 ua [], .mk 5 u0 [.mk 2 ub []]]) w) := by
  refine (parse_any5 ⟨#[97, 98, 42]⟩ (by decide) w).mono fun e w' k => ?_
  unfold ParseP at k
  rw [if_neg (by decide)] at k
  have h' : wholeF (⟨#[97, 98, 42]⟩ : ByteArray).data.toList = _ := h
  rw [h'] at k
  simp only at k
  rw [if_neg (by simp [dep, depL])] at k
  exact k
theorem parse_a1P (w : World) : Calls Tryd.prog 21 #[.string ⟨#[97, 41]⟩] w fun e w' => e = ret3 zeroR 1 50 ∧ Below w.heap.size w w' := by
  refine (parse_any5 ⟨#[97, 41]⟩ (by decide) w).mono fun e w' k => ?_
  unfold ParseP at k
  rw [if_neg (by decide)] at k
  have h' : wholeF (⟨#[97, 41]⟩ : ByteArray).data.toList = _ := parse_a1
  rw [h'] at k
  exact k
theorem six_all {P : Nat → Prop} (h0 : P 0) (h1 : P 1) (h2 : P 2) (h3 : P 3) (h4 : P 4) (h5 : P 5) : ∀ j, j < 6 → P j := fun j hj => by
  rcases (by omega : j = 0 ∨ j = 1 ∨ j = 2 ∨ j = 3 ∨ j = 4 ∨ j = 5) with rfl | rfl | rfl | rfl | rfl | rfl <;> assumption
theorem tab_rv {D : Nat → Prop} {w : World} {b1 b2 : Nat} {ua ub : Nat → Int} (he : ∀ i, i < 4 → ua i = uA i ∧ ub i = uB i) (h1 : w.heap[b1]? = some (.cells (#[.int .i64 2, .int .u64 (uB 0), .int .u64 (uB 1), .int .u64 (uB 2), .int .u64 (uB 3), .slice none 0 0] : Array Value) 27 (0, 0))) (h2 : w.heap[b2]? = some (.cells (#[.int .i64 2, .int .u64 (uA 0), .int .u64 (uA 1), .int .u64 (uA 2), .int .u64 (uA 3), .slice none 0 0, .int .i64 5, .int .u64 0, .int .u64 0, .int .u64 0, .int .u64 0, .slice (some ⟨b1, 0, none⟩) 1 1] : Array Value) 27 (0, 0))) (d1 : D b1) (d2 : D b2) :
    RV D w (.mk 3 u0 [.mk 2 ua [], .mk 5 u0 [.mk 2 ub []]]) (.agg (#[.int .i64 3, .int .u64 0, .int .u64 0, .int .u64 0, .int .u64 0, .slice (some ⟨b2, 0, none⟩) 2 2] : Array Value)) := by
  have n1 : nodeC 2 ub (.slice none 0 0) = (#[.int .i64 2, .int .u64 (uB 0), .int .u64 (uB 1), .int .u64 (uB 2), .int .u64 (uB 3), .slice none 0 0] : Array Value) := by
    simp only [nodeC]; rw [(he 0 (by omega)).2, (he 1 (by omega)).2, (he 2 (by omega)).2, (he 3 (by omega)).2]
  have n2 : nodeC 2 ua (.slice none 0 0) = (#[.int .i64 2, .int .u64 (uA 0), .int .u64 (uA 1), .int .u64 (uA 2), .int .u64 (uA 3), .slice none 0 0] : Array Value) := by
    simp only [nodeC]; rw [(he 0 (by omega)).1, (he 1 (by omega)).1, (he 2 (by omega)).1, (he 3 (by omega)).1]
  have l1 : RV D w (.mk 2 ub []) (.agg (#[.int .i64 2, .int .u64 (uB 0), .int .u64 (uB 1), .int .u64 (uB 2), .int .u64 (uB 3), .slice none 0 0] : Array Value)) := by rw [← n1]; exact .leaf 2 ub none 0
  have l2 : RV D w (.mk 2 ua []) (.agg (#[.int .i64 2, .int .u64 (uA 0), .int .u64 (uA 1), .int .u64 (uA 2), .int .u64 (uA 3), .slice none 0 0] : Array Value)) := by rw [← n2]; exact .leaf 2 ua none 0
  have s1 : RV D w (.mk 5 u0 [.mk 2 ub []]) (.agg (nodeC 5 u0 (.slice (some ⟨b1, 0, none⟩) 1 1))) := by
    refine .node 5 u0 [.mk 2 ub []] b1 0 1 (fun _ => (#[.int .i64 2, .int .u64 (uB 0), .int .u64 (uB 1), .int .u64 (uB 2), .int .u64 (uB 3), .slice none 0 0] : Array Value)) d1 (by simp) (fun i hi => ?_) (fun i hi => ?_)
    · have : i = 0 := by simpa using hi
      subst this; exact l1
    · have : i = 0 := by simpa using hi
      subst this
      refine six_all ?_ ?_ ?_ ?_ ?_ ?_ <;> exact ⟨_, rfl, (cell_of_row w b1 _ _ 27 (0, 0) h1).trans rfl⟩
  refine .node 3 u0 [.mk 2 ua [], .mk 5 u0 [.mk 2 ub []]] b2 0 2 (fun i => if i = 0 then (#[.int .i64 2, .int .u64 (uA 0), .int .u64 (uA 1), .int .u64 (uA 2), .int .u64 (uA 3), .slice none 0 0] : Array Value) else nodeC 5 u0 (.slice (some ⟨b1, 0, none⟩) 1 1)) d2 (by simp) (fun i hi => ?_) (fun i hi => ?_)
  · have : i = 0 ∨ i = 1 := by simp at hi; omega
    rcases this with rfl | rfl
    · exact l2
    · exact s1
  · have : i = 0 ∨ i = 1 := by simp at hi; omega
    rcases this with rfl | rfl
    · refine six_all ?_ ?_ ?_ ?_ ?_ ?_ <;> exact ⟨_, rfl, (cell_of_row w b2 _ _ 27 (0, 0) h2).trans rfl⟩
    · refine six_all ?_ ?_ ?_ ?_ ?_ ?_ <;> exact ⟨_, rfl, (cell_of_row w b2 _ _ 27 (0, 0) h2).trans rfl⟩
set_option maxHeartbeats 8000000 in
theorem alive_any (w : World) (hw0 : 0 < w.heap.size) (hT : Tb w) : Calls Tryd.prog 16 #[] w fun e w' => e = .returned (.bool true) ∧ Below w.heap.size w w' := by
  obtain ⟨ua, ub, hab, he⟩ := parse_ab
  have HA := Lib.hid (parse_abP hab)
  have HE := Lib.hid he
  have HT0 := Lib.hid hT
  have hz := zero27l
  clear hab he hT
  go_enter Tryd.func16, Tryd.ntmps16
  go_wp2_with fail
  refine (HA.out _).mono ?_
  rintro _ w1 ⟨⟨v, rfl, hv⟩, hb1⟩
  obtain ⟨k, u, p, n, c, rfl⟩ := hv.form2
  have HV := Lib.hid hv
  have HB1 := Lib.hid hb1
  unfold ret3
  clear hv hb1 HA
  have S2 := Lib.hid ((Sb.start w1).alloc (.cells #[.int .i64 k, .int .u64 (u 0), .int .u64 (u 1), .int .u64 (u 2), .int .u64 (u 3), .slice p n c] 27))
  go_upto_region 2 with fail
  generalize (w1.alloc (.cells #[.int .i64 k, .int .u64 (u 0), .int .u64 (u 1), .int .u64 (u 2), .int .u64 (u 3), .slice p n c] 27)) = wa at *
  go_wp2_with fail
  refine (set_97 _).mono ?_
  rintro _ w2 ⟨rfl, hb⟩
  have S3 := Lib.hid (S2.out.up hb)
  clear hb S2
  go_wp2_with fail
  refine (set_98 _).mono ?_
  rintro _ w3 ⟨rfl, hb⟩
  have S4 := Lib.hid (S3.out.up hb)
  clear hb S3
  go_upto_region 3 with fail
  refine at_world (fun y => Sb w1 y [(w3.heap.size + 1 + 1, .cells (#[.int .i64 3, .int .u64 0, .int .u64 0, .int .u64 0, .int .u64 0, .slice (some ⟨w3.heap.size + 1, 0, none⟩) 2 2] : Array Value) 27), (w3.heap.size + 1, .cells (#[.int .i64 2, .int .u64 (uA 0), .int .u64 (uA 1), .int .u64 (uA 2), .int .u64 (uA 3), .slice none 0 0, .int .i64 5, .int .u64 0, .int .u64 0, .int .u64 0, .int .u64 0, .slice (some ⟨w3.heap.size, 0, none⟩) 1 1] : Array Value) 27), (w3.heap.size, .cells (#[.int .i64 2, .int .u64 (uB 0), .int .u64 (uB 1), .int .u64 (uB 2), .int .u64 (uB 3), .slice none 0 0] : Array Value) 27), (w1.heap.size, .cells #[.int .i64 k, .int .u64 (u 0), .int .u64 (u 1), .int .u64 (u 2), .int .u64 (u 3), .slice p n c] 27)]) (by simpa using (((S4.out.alloc (.cells (#[.int .i64 2, .int .u64 (uB 0), .int .u64 (uB 1), .int .u64 (uB 2), .int .u64 (uB 3), .slice none 0 0] : Array Value) 27)).alloc (.cells (#[.int .i64 2, .int .u64 (uA 0), .int .u64 (uA 1), .int .u64 (uA 2), .int .u64 (uA 3), .slice none 0 0, .int .i64 5, .int .u64 0, .int .u64 0, .int .u64 0, .int .u64 0, .slice (some ⟨w3.heap.size, 0, none⟩) 1 1] : Array Value) 27)).alloc (.cells (#[.int .i64 3, .int .u64 0, .int .u64 0, .int .u64 0, .int .u64 0, .slice (some ⟨w3.heap.size + 1, 0, none⟩) 2 2] : Array Value) 27))) fun y hy => ?_
  have S5 := Lib.hid hy
  have hq1 := hy.tl.tl.heap
  have hq2 := hy.tl.heap
  have hsz := hy.1.size
  have hlt0 := hy.lt
  have hge : w1.heap.size ≤ w3.heap.size := S4.out.1.size
  have hE : ∀ b, (w1.heap.size ≤ b ∧ b < y.heap.size) → b < y.heap.size := fun b h => h.2
  have HW := Lib.hid (tab_rv (D := fun b => w1.heap.size ≤ b ∧ b < y.heap.size) (ua := uA) (ub := uB) (fun i _ => ⟨rfl, rfl⟩) hq1 hq2 ⟨by omega, by omega⟩ ⟨by omega, by omega⟩)
  have HW' := Lib.hid (tab_rv (D := fun b => w1.heap.size ≤ b ∧ b < y.heap.size) HE.out hq1 hq2 ⟨by omega, by omega⟩ ⟨by omega, by omega⟩)
  have HR := Lib.hid (RV.mono (w' := y) (fun b h => h) (fun b hb _ => hy.1.block b hb.2) HV.out)
  generalize w3.heap.size + 1 + 1 = bw at *
  clear hy hq1 hq2 S4 HV HE
  have HWy := Lib.hid fun z (hb : Below y.heap.size y z) => (⟨RV.mono (fun b h => h) (fun b hb' _ => hb.block b hb'.2) HW.out, fun b h => Nat.lt_of_lt_of_le h.2 hb.size⟩ : RV (fun b => w1.heap.size ≤ b ∧ b < y.heap.size) z Tab (.agg (#[.int .i64 3, .int .u64 0, .int .u64 0, .int .u64 0, .int .u64 0, .slice (some ⟨w3.heap.size + 1, 0, none⟩) 2 2] : Array Value)) ∧ ∀ b, (w1.heap.size ≤ b ∧ b < y.heap.size) → b < z.heap.size)
  have HTy := Lib.hid fun z (hb : Below y.heap.size y z) => (HT0.out.mono ((hb.block 0 (by omega)).trans ((S5.out.1.block 0 (by have := HB1.out.size; omega)).trans (HB1.out.block 0 hw0))) : Tb z)
  have hwd : wid Tab ≤ 9223372036854775806 := by decide
  have b0 := Below.refl y.heap.size y
  have d0 : y.cell? ⟨bw, 0, none⟩ = some (.int .i64 3) := S5.out.cell 0
  have d1 : y.cell? ⟨bw, 1, none⟩ = some (.int .u64 0) := S5.out.cell 1
  have d2 : y.cell? ⟨bw, 2, none⟩ = some (.int .u64 0) := S5.out.cell 2
  have d3 : y.cell? ⟨bw, 3, none⟩ = some (.int .u64 0) := S5.out.cell 3
  have d4 : y.cell? ⟨bw, 4, none⟩ = some (.int .u64 0) := S5.out.cell 4
  have d5 : y.cell? ⟨bw, 5, none⟩ = some (.slice (some ⟨w3.heap.size + 1, 0, none⟩) 2 2) := S5.out.cell 5
  have hP := printr_any (HWy.out y b0).2 hwd tab_ok (HWy.out y b0).1
  rw [tab_print] at hP
  have HPr := Lib.hid hP
  clear hP b0
  go_wp2_with fail
  refine HPr.out.mono ?_
  rintro _ y1 ⟨rfl, hb⟩
  have K1 := Lib.hid hb
  have S6 := Lib.hid (S5.out.up hb)
  have hM := matches_any [97, 98, 98] (HWy.out y1 hb).2 hwd tab_ok (by have := hb.size; omega) (HTy.out y1 hb) (HWy.out y1 hb).1
  rw [tab_m1] at hM
  have HM1 := Lib.hid hM
  clear hb hM HPr d0 d1 d2 d3 d4 d5
  have d0 : y1.cell? ⟨bw, 0, none⟩ = some (.int .i64 3) := S6.out.cell 0
  have d1 : y1.cell? ⟨bw, 1, none⟩ = some (.int .u64 0) := S6.out.cell 1
  have d2 : y1.cell? ⟨bw, 2, none⟩ = some (.int .u64 0) := S6.out.cell 2
  have d3 : y1.cell? ⟨bw, 3, none⟩ = some (.int .u64 0) := S6.out.cell 3
  have d4 : y1.cell? ⟨bw, 4, none⟩ = some (.int .u64 0) := S6.out.cell 4
  have d5 : y1.cell? ⟨bw, 5, none⟩ = some (.slice (some ⟨w3.heap.size + 1, 0, none⟩) 2 2) := S6.out.cell 5
  go_wp2_with fail
  refine HM1.out.mono ?_
  rintro _ y2 ⟨rfl, hb⟩
  have K2 := Lib.hid (K1.out.trans (hb.mono K1.out.size))
  have S7 := Lib.hid (S6.out.up hb)
  have hM := matches_any [98, 97] (HWy.out y2 K2.out).2 hwd tab_ok (by have := K2.out.size; omega) (HTy.out y2 K2.out) (HWy.out y2 K2.out).1
  rw [tab_m2] at hM
  have HM2 := Lib.hid hM
  clear hb hM HM1 K1 S6 d0 d1 d2 d3 d4 d5
  have d0 : y2.cell? ⟨bw, 0, none⟩ = some (.int .i64 3) := S7.out.cell 0
  have d1 : y2.cell? ⟨bw, 1, none⟩ = some (.int .u64 0) := S7.out.cell 1
  have d2 : y2.cell? ⟨bw, 2, none⟩ = some (.int .u64 0) := S7.out.cell 2
  have d3 : y2.cell? ⟨bw, 3, none⟩ = some (.int .u64 0) := S7.out.cell 3
  have d4 : y2.cell? ⟨bw, 4, none⟩ = some (.int .u64 0) := S7.out.cell 4
  have d5 : y2.cell? ⟨bw, 5, none⟩ = some (.slice (some ⟨w3.heap.size + 1, 0, none⟩) 2 2) := S7.out.cell 5
  go_wp2_with fail
  refine HM2.out.mono ?_
  rintro _ y3 ⟨rfl, hb⟩
  have K3 := Lib.hid (K2.out.trans (hb.mono K2.out.size))
  have S8 := Lib.hid (S7.out.up hb)
  clear hb HM2 K2 S7 d0 d1 d2 d3 d4 d5
  go_wp2_with fail
  refine (parse_a1P _).mono ?_
  rintro _ y4 ⟨rfl, hb⟩
  have K4 := Lib.hid (K3.out.trans (hb.mono K3.out.size))
  have S9 := Lib.hid (S8.out.up hb)
  unfold ret3 zeroR nodeC u0
  clear hb K3 S8
  go_upto_region 7 with fail
  have hly : w1.heap.size < y4.heap.size := S9.out.tl.tl.tl.lt
  have hlw : bw < y4.heap.size := S9.out.lt
  have d0 : y4.cell? ⟨bw, 0, none⟩ = some (.int .i64 3) := S9.out.cell 0
  have d1 : y4.cell? ⟨bw, 1, none⟩ = some (.int .u64 0) := S9.out.cell 1
  have d2 : y4.cell? ⟨bw, 2, none⟩ = some (.int .u64 0) := S9.out.cell 2
  have d3 : y4.cell? ⟨bw, 3, none⟩ = some (.int .u64 0) := S9.out.cell 3
  have d4 : y4.cell? ⟨bw, 4, none⟩ = some (.int .u64 0) := S9.out.cell 4
  have d5 : y4.cell? ⟨bw, 5, none⟩ = some (.slice (some ⟨w3.heap.size + 1, 0, none⟩) 2 2) := S9.out.cell 5
  have e0 : y4.cell? ⟨w1.heap.size, 0, none⟩ = some (.int .i64 k) := S9.out.tl.tl.tl.cell 0
  have e1 : y4.cell? ⟨w1.heap.size, 1, none⟩ = some (.int .u64 (u 0)) := S9.out.tl.tl.tl.cell 1
  have e2 : y4.cell? ⟨w1.heap.size, 2, none⟩ = some (.int .u64 (u 1)) := S9.out.tl.tl.tl.cell 2
  have e3 : y4.cell? ⟨w1.heap.size, 3, none⟩ = some (.int .u64 (u 2)) := S9.out.tl.tl.tl.cell 3
  have e4 : y4.cell? ⟨w1.heap.size, 4, none⟩ = some (.int .u64 (u 3)) := S9.out.tl.tl.tl.cell 4
  have e5 : y4.cell? ⟨w1.heap.size, 5, none⟩ = some (.slice p n c) := S9.out.tl.tl.tl.cell 5
  have hza : Below y4.heap.size y4 (y4.alloc (.cells #[.int .i64 0, .int .u64 0, .int .u64 0, .int .u64 0, .int .u64 0, .slice none 0 0] 27)) := (Below.refl _ _).alloc (Nat.le_refl _) _
  have K5 := K4.out.trans (hza.mono K4.out.size)
  have S10 := Lib.hid (S9.out.up hza)
  have HS := Lib.hid (same_true 3 _ (by simp [dep, depL]) (by simp [wid, widL]) (fun b hb => by have := K5.size; omega) (fun b hb => Nat.lt_of_lt_of_le hb.2 K5.size) (RV.mono (fun b h => h) (fun b hb hlt => K5.block b hlt) HR.out) (RV.mono (fun b h => h) (fun b hb _ => K5.block b hb.2) HW'.out))
  have K5' := Lib.hid K5
  clear K5 hza
  go_wp2_with fail
  refine HS.out.mono ?_
  rintro _ y5 ⟨rfl, hb⟩
  have K6 := Lib.hid (K5'.out.trans (hb.mono K5'.out.size))
  have S11 := Lib.hid (S10.out.up hb)
  have hZ := size_any (HWy.out y5 K6.out).2 hwd (HWy.out y5 K6.out).1
  rw [tab_sz] at hZ
  have HZ := Lib.hid hZ
  clear hb hZ HS K5' S10 d0 d1 d2 d3 d4 d5 e0 e1 e2 e3 e4 e5 S9 K4
  have d0 : y5.cell? ⟨bw, 0, none⟩ = some (.int .i64 3) := S11.out.cell 0
  have d1 : y5.cell? ⟨bw, 1, none⟩ = some (.int .u64 0) := S11.out.cell 1
  have d2 : y5.cell? ⟨bw, 2, none⟩ = some (.int .u64 0) := S11.out.cell 2
  have d3 : y5.cell? ⟨bw, 3, none⟩ = some (.int .u64 0) := S11.out.cell 3
  have d4 : y5.cell? ⟨bw, 4, none⟩ = some (.int .u64 0) := S11.out.cell 4
  have d5 : y5.cell? ⟨bw, 5, none⟩ = some (.slice (some ⟨w3.heap.size + 1, 0, none⟩) 2 2) := S11.out.cell 5
  go_wp2_with fail
  refine HZ.out.mono ?_
  rintro _ y6 ⟨rfl, hb⟩
  have K7 := Lib.hid (HB1.out.trans (((S11.out.1.trans (hb.mono S11.out.1.size))).mono HB1.out.size))
  clear hb
  go_wp2_with fail
  go_ret
  exact ⟨rfl, K7.out⟩
end Go.Proofs.YtmjojahkbjlcdaaDoor
end
section
/- Package regs: the reader's small steps: what comes next. -/
namespace Go.Proofs.YtmjojahkbjlcdaaDoor
set_option linter.unusedSimpArgs false
set_option linter.unusedVariables false
set_option maxRecDepth 100000
open Go.RowKit

/-- The patterns ts, as they lay in w0, in a row of one's own. -/
def TB (w0 : World) (D : Nat → Prop) (ts : List RT) (sl : Value) (w : World) : Prop :=
  ∃ xs : List (Array Value), xs.length = ts.length ∧ (∀ x ∈ xs, ∃ k u p n c, x = nodeC k u (.slice p n c)) ∧ (∀ i (h : i < ts.length) (h' : i < xs.length), RV D w0 ts[i] (.agg xs[i])) ∧ w.ownsRow w0.heap.size 27 6 sl ts.length (flat xs)
theorem nodes_six {xs : List (Array Value)} (h : ∀ x ∈ xs, ∃ k u p n c, x = nodeC k u (.slice p n c)) : ∀ x ∈ xs, x.size = 6 := fun x hx => by
  obtain ⟨k, u, p, n, c, rfl⟩ := h x hx; rfl
theorem TB.up {w0 w w' : World} {D : Nat → Prop} {ts : List RT} {sl : Value} (h : TB w0 D ts sl w) (hb : Below w.heap.size w w') : TB w0 D ts sl w' := by
  obtain ⟨xs, h1, h2, h3, h4⟩ := h
  refine ⟨xs, h1, h2, h3, h4.1, ?_⟩
  rcases h4.2 with hn | ⟨g, cap, cur, hv, hg, hh, rest⟩
  · exact .inl hn
  · exact .inr ⟨g, cap, cur, hv, hg, (hb.block g (Array.getElem?_eq_some_iff.1 hh).1).trans hh, rest⟩
theorem TB.sl {w0 w : World} {D : Nat → Prop} {ts : List RT} {sl : Value} (h : TB w0 D ts sl w) : ∃ a c, sl = .slice a ts.length c := by
  obtain ⟨xs, h1, h2, h3, h4⟩ := h
  rcases h4.2 with ⟨hv, hn⟩ | ⟨g, cap, cur, hv, _⟩
  · exact ⟨none, 0, by rw [hv, hn]⟩
  · exact ⟨_, _, hv⟩
theorem flat_take (xs : List (Array Value)) (h : ∀ x ∈ xs, x.size = 6) (n : Nat) (hn : n ≤ xs.length) : (flat xs).take (n * 6) = flat (xs.take n) := by
  have e : flat xs = flat (xs.take n) ++ flat (xs.drop n) := by
    unfold flat
    rw [← List.flatMap_append, List.take_append_drop]
  rw [e]
  exact List.take_left' (by rw [flat_len _ (fun x hx => h x (List.mem_of_mem_take hx)), List.length_take]; omega)
/-- The last one, and what is left. -/
theorem TB.last {w0 w : World} {D : Nat → Prop} {ts : List RT} {t : RT} {sl : Value} (h : TB w0 D (ts ++ [t]) sl w) : ∃ g cap k u p n c, sl = .slice (some ⟨g, 0, none⟩) (ts.length + 1) cap ∧ w0.heap.size ≤ g ∧ g < w.heap.size ∧ RV D w0 t (.agg (nodeC k u (.slice p n c))) ∧
    (∀ j y, (nodeC k u (.slice p n c))[j]? = some y → w.cell? ⟨g, ts.length * 6 + j, none⟩ = some y) ∧ TB w0 D ts (.slice (some ⟨g, 0, none⟩) ts.length cap) w ∧ ts.length + 1 ≤ cap := by
  obtain ⟨xs, h1, h2, h3, h4⟩ := h
  have hl : (ts ++ [t]).length = ts.length + 1 := by simp
  rw [hl] at h1 h4
  rcases h4.2 with ⟨_, hn⟩ | ⟨g, cap, cur, hv, hg, hh, hc1, hc2, hc3, hc4⟩
  · omega
  · have hx := h2 xs[ts.length] (List.getElem_mem _)
    obtain ⟨k, u, p, n, c, he⟩ := hx
    have h5 := h3 ts.length (by simp) (by omega)
    rw [he] at h5
    have e : (ts ++ [t])[ts.length]'(by simp) = t := by simp
    rw [e] at h5
    have h6 := nodes_six h2
    refine ⟨g, cap, k, u, p, n, c, hv, hg, (Array.getElem?_eq_some_iff.1 hh).1, h5, fun j y hy => ?_, ⟨xs.take ts.length, by simp; omega, fun x hx => h2 x (List.mem_of_mem_take hx), fun i hi hi' => ?_, by rw [flat_len _ (fun x hx => h6 x (List.mem_of_mem_take hx)), List.length_take]; rw [Nat.min_eq_left (by omega)], .inr ⟨g, cap, cur, rfl, hg, hh, by omega, hc2, hc3, ?_⟩⟩, hc1⟩
    · have hj : j < 6 := (Array.getElem?_eq_some_iff.1 hy).1
      rw [cell_of_row w g _ _ 27 (0, 0) hh]
      have h7 := flat_get xs h6 ts.length (by omega) j hj
      rw [he, hy, ← hc4, List.getElem?_take_of_lt (by omega), Array.getElem?_toList] at h7
      rw [← h7, show ts.length * 6 + j = 6 * ts.length + j by omega]
    · have := h3 i (by simp; omega) (by omega)
      rw [List.getElem_append_left hi] at this
      simpa using this
    · have : cur.toList.take (ts.length * 6) = (cur.toList.take ((ts.length + 1) * 6)).take (ts.length * 6) := by rw [List.take_take]; congr 1; omega
      rw [this, hc4, flat_take xs h6 _ (by omega)]
/-- One more. -/
theorem TB.app {w0 w' : World} {D : Nat → Prop} {ts : List RT} {t : RT} {sl' : Value} {k : Int} {u : Nat → Int} {p : Option Addr} {n c : Nat} {xs : List (Array Value)} (h1 : xs.length = ts.length) (h2 : ∀ x ∈ xs, ∃ k u p n c, x = nodeC k u (.slice p n c)) (h3 : ∀ i (h : i < ts.length) (h' : i < xs.length), RV D w0 ts[i] (.agg xs[i]))
    (ht : RV D w0 t (.agg (nodeC k u (.slice p n c)))) (hown : w'.ownsRow w0.heap.size 27 6 sl' (ts.length + 1) (flat xs ++ (nodeC k u (.slice p n c)).toList)) : TB w0 D (ts ++ [t]) sl' w' := by
  refine ⟨xs ++ [nodeC k u (.slice p n c)], by simp [h1], fun x hx => ?_, fun i hi hi' => ?_, ?_⟩
  · rcases List.mem_append.1 hx with hx | hx
    · exact h2 x hx
    · simp at hx; exact ⟨k, u, p, n, c, hx⟩
  · by_cases hlt : i < ts.length
    · have := h3 i hlt (by omega)
      simpa [List.getElem_append_left, hlt, h1] using this
    · have hi2 : i = ts.length := by simp at hi; omega
      subst hi2
      have e1 : (ts ++ [t])[ts.length]'hi = t := by simp
      have e2 : (xs ++ [nodeC k u (.slice p n c)])[ts.length]'hi' = nodeC k u (.slice p n c) := by simp [← h1]
      rw [e1, e2]; exact ht
  · rw [flat_app]
    simpa using hown
theorem TB.one {w0 w : World} {D : Nat → Prop} {t : RT} {k : Int} {u : Nat → Int} {p : Option Addr} {n c : Nat} (ht : RV D w0 t (.agg (nodeC k u (.slice p n c)))) (hw : w0.heap.size ≤ w.heap.size) : TB w0 D [t] (.slice (some ⟨w.heap.size, 0, none⟩) 1 1) (w.alloc (.cells (nodeC k u (.slice p n c)) 27)) :=
  ⟨[nodeC k u (.slice p n c)], rfl, fun x hx => by simp at hx; exact ⟨k, u, p, n, c, hx⟩, fun i hi hi' => by
    have : i = 0 := by simpa using hi
    subst this; exact ht, rfl, .inr ⟨w.heap.size, 1, _, rfl, hw, heap_alloc_last w _, by simp, by decide, rfl, rfl⟩⟩
theorem below_grown {B : Nat} {w0 w w' : World} {row : Option Nat} (h : Below B w0 w) (hg : w.grownBy w' row) (hr : ∀ g, row = some g → B ≤ g) (hB : B ≤ w.heap.size) : Below B w0 w' :=
  ⟨hg.os.trans h.os, hg.tape.trans h.tape, hg.output.trans h.output, Nat.le_trans h.size hg.size, fun k hk => (hg.block k (by omega) (fun e => by have := hr k e.symm; omega)).trans (h.block k hk)⟩
set_option maxHeartbeats 8000000 in
theorem big_walk {D : Nat → Prop} {t : RT} {v : Value} {w : World} (m : Nat) (hm : sz t ≤ m) (hm2 : m ≤ 1000000) (hD : ∀ z, D z → z < w.heap.size) (h : RV D w t v) :
    Calls Tryd.prog 13 #[v, .int .i64 (m : Nat)] w fun e w' => e = .returned (.bool false) ∧ Below w.heap.size w w' := by
  obtain ⟨i0, hi, hz0, hz1, hz2⟩ := info_parts infoN
  obtain ⟨k, u, p, n, c, rfl⟩ := h.form
  have S0 := (Sb.start w).alloc (.cells (nodeC k u (.slice p n c)) 27)
  have HT1 := Lib.hid (TB.one (w := w.alloc (.cells (nodeC k u (.slice p n c)) 27)) h (by simp))
  have HB1 := Lib.hid (S0.1.alloc S0.1.size (.cells (nodeC k u (.slice p n c)) 27))
  clear h S0
  unfold nodeC at HT1 HB1 ⊢
  go_enter Tryd.func13, Tryd.ntmps13
  go_wp2
  rw [show (w.alloc (.cells #[.int .i64 k, .int .u64 (u 0), .int .u64 (u 1), .int .u64 (u 2), .int .u64 (u 3), .slice p n c] 27)).heap.size = w.heap.size + 1 from by simp] at HT1
  generalize hws : ((w.alloc (.cells #[.int .i64 k, .int .u64 (u 0), .int .u64 (u 1), .int .u64 (u 2), .int .u64 (u 3), .slice p n c] 27)).alloc (.cells #[.int .i64 k, .int .u64 (u 0), .int .u64 (u 1), .int .u64 (u 2), .int .u64 (u 3), .slice p n c] 27)) = ws at *
  clear hws
  go_loopw [5, 6] (fun sl i wr => ∃ (ts : List RT) (q : Nat), i = .int .i64 (q : Nat) ∧ q + szL ts = sz t ∧ Hid (TB w D ts sl wr) ∧ Hid (Below w.heap.size w wr)) (fun _ i _ => sz t - (intOf i).toNat)
  case atStart => exact ⟨[t], 0, rfl, by simp [szL], HT1, HB1⟩
  case round =>
    obtain ⟨ts, q, rfl, hq, HT, HB⟩ := hrel
    clear HT1 HB1
    rcases List.eq_nil_or_concat ts with rfl | ⟨ts, x, rfl⟩
    · obtain ⟨a, c', hsl⟩ := HT.out.sl
      rw [List.length_nil] at hsl
      subst hsl
      go_wp2
      go_ret
      exact ⟨rfl, HB.out⟩
    · rw [List.concat_eq_append] at HT hq
      obtain ⟨g, cap, k1, u1, p1, n1, c1, hsl, hg, hgl, hv, hcell, hTB, hcap⟩ := HT.out.last
      subst hsl
      have hsx : szL (ts ++ [x]) = szL ts + sz x := by rw [szL_app]; simp [szL]
      have hsp := sz_pos x
      have hlen := len_szL ts
      have d0 : wr.cell? ⟨g, ts.length * 6, none⟩ = some (.int .i64 k1) := hcell 0 _ rfl
      have d1 : wr.cell? ⟨g, ts.length * 6 + 1, none⟩ = some (.int .u64 (u1 0)) := hcell 1 _ rfl
      have d2 : wr.cell? ⟨g, ts.length * 6 + 2, none⟩ = some (.int .u64 (u1 1)) := hcell 2 _ rfl
      have d3 : wr.cell? ⟨g, ts.length * 6 + 3, none⟩ = some (.int .u64 (u1 2)) := hcell 3 _ rfl
      have d4 : wr.cell? ⟨g, ts.length * 6 + 4, none⟩ = some (.int .u64 (u1 3)) := hcell 4 _ rfl
      have d5 : wr.cell? ⟨g, ts.length * 6 + 5, none⟩ = some (.slice p1 n1 c1) := hcell 5 _ rfl
      have HT2 := Lib.hid hTB
      have HV := Lib.hid hv
      have hlt : (0 : Int) < ((ts.length : Nat) : Int) + 1 := by omega
      have hcap' : ((ts.length : Nat) : Int) ≤ (cap : Int) := by omega
      clear hcell hTB hv HT
      obtain ⟨kx, ux, ps⟩ := x
      obtain ⟨px, cx, hvx, hpx⟩ := HV.out.parts
      have hn1 : n1 = ps.length := by simp [nodeC] at hvx; exact hvx.2.2.2.2.2.2.1
      have hp1 : p1 = px := by simp [nodeC] at hvx; exact hvx.2.2.2.2.2.1
      subst hn1
      subst hp1
      have HPX := Lib.hid hpx
      have hps := len_szL ps
      simp only [sz] at hsx hsp
      have hdq : decide (m ≤ q) = false := by simp; omega
      have hdp : decide (m < ps.length) = false := by simp; omega
      have HBx := Lib.hid ((Sb.start wr).alloc (.cells #[.int .i64 k1, .int .u64 (u1 0), .int .u64 (u1 1), .int .u64 (u1 2), .int .u64 (u1 3), .slice p1 ps.length c1] 27))
      have HT3 := Lib.hid (HT2.out.up HBx.out.1)
      have HB3 := Lib.hid (HB.out.trans (HBx.out.1.mono HB.out.size))
      have hgx : g ≠ wr.heap.size := by omega
      have hlx := HBx.out.lt
      clear hvx hpx HT2 HB
      go_upto_region 9 with fail
      generalize (wr.alloc (.cells #[.int .i64 k1, .int .u64 (u1 0), .int .u64 (u1 1), .int .u64 (u1 2), .int .u64 (u1 3), .slice p1 ps.length c1] 27)) = wx at *
      have HX := Lib.hid HBx.out.heap
      clear HBx d0 d1 d2 d3 d4 d5
      go_wp2
      generalize wr.heap.size = bx at *
      go_loopw [5, 8] (fun sl i w2 => ∃ j : Nat, i = .int .i64 (j : Nat) ∧ j ≤ ps.length ∧ Hid (TB w D (ts ++ ps.take j) sl w2) ∧ Hid (Below w.heap.size w w2) ∧ Hid (w2.heap[bx]? = some (.cells #[.int .i64 k1, .int .u64 (u1 0), .int .u64 (u1 1), .int .u64 (u1 2), .int .u64 (u1 3), .slice p1 ps.length c1] 27 (0, 0))) ∧ ∀ g', sl.ownBlock = some g' → g' ≠ bx) (fun _ i _ => ps.length - (intOf i).toNat)
      case atStart => exact ⟨0, rfl, by omega, by simpa using HT3, HB3, HX, fun g' h => by simp [Value.ownBlock] at h; omega⟩
      case round =>
        obtain ⟨j, rfl, hj, HTj, HBj, HXj, hown⟩ := hrel
        clear HT3 HB3 HX
        have c5 : wr.cell? ⟨bx, 5, none⟩ = some (.slice p1 ps.length c1) := cell_of_row wr bx 5 _ 27 (0, 0) HXj.out
        obtain ⟨a, cc, hsl⟩ := HTj.out.sl
        have hlj : (ts ++ ps.take j).length = ts.length + j := by simp; omega
        rw [hlj] at hsl
        subst hsl
        by_cases hlt2 : j < ps.length
        · have hlt3 : (j : Int) < ((ps.length : Nat) : Int) := by omega
          have hle : ((ts.length : Nat) : Int) + (j : Int) ≤ (m : Int) := by omega
          have hne : ps ≠ [] := by intro e; subst e; simp at hlt2
          obtain ⟨b', o', rfl, hDb, hx⟩ := HPX.out hne
          obtain ⟨k5, u5, p5, n5, c5', hv5, hc5⟩ := hx j hlt2
          have hbw := hD b' hDb
          have cc5 : ∀ i y, (nodeC k5 u5 (.slice p5 n5 c5'))[i]? = some y → wr.cell? ⟨b', o' + j * 6 + i, none⟩ = some y := fun i y hy => by
            rw [HBj.out.cell (p := ⟨b', o' + j * 6 + i, none⟩) hbw, ← hc5 i y hy, show o' + j * 6 + i = o' + (6 * j + i) by omega]
          have f0 : wr.cell? ⟨b', o' + j * 6, none⟩ = some (.int .i64 k5) := cc5 0 _ rfl
          have f1 : wr.cell? ⟨b', o' + j * 6 + 1, none⟩ = some (.int .u64 (u5 0)) := cc5 1 _ rfl
          have f2 : wr.cell? ⟨b', o' + j * 6 + 2, none⟩ = some (.int .u64 (u5 1)) := cc5 2 _ rfl
          have f3 : wr.cell? ⟨b', o' + j * 6 + 3, none⟩ = some (.int .u64 (u5 2)) := cc5 3 _ rfl
          have f4 : wr.cell? ⟨b', o' + j * 6 + 4, none⟩ = some (.int .u64 (u5 3)) := cc5 4 _ rfl
          have f5 : wr.cell? ⟨b', o' + j * 6 + 5, none⟩ = some (.slice p5 n5 c5') := cc5 5 _ rfl
          obtain ⟨xs, x1, x2, x3, x4⟩ := HTj.out
          rw [hlj] at x4
          have X1 := Lib.hid x1
          have X2 := Lib.hid x2
          have X3 := Lib.hid x3
          have X4 := Lib.hid (World.ownsRow.alloc x4 (.cells #[.int .i64 k5, .int .u64 (u5 0), .int .u64 (u5 1), .int .u64 (u5 2), .int .u64 (u5 3), .slice p5 n5 c5'] 27))
          have HC0 : Hid (∀ j u, (nodeC k5 u5 (.slice p5 n5 c5')).toList[j]? = some u → (wr.alloc (.cells #[.int .i64 k5, .int .u64 (u5 0), .int .u64 (u5 1), .int .u64 (u5 2), .int .u64 (u5 3), .slice p5 n5 c5'] 27)).cell? ((⟨wr.heap.size, 0, none⟩ : Addr).add j) = some u) := Lib.hid fun j u hj => by
            rw [Addr.add_mid, cell_of_row _ wr.heap.size (0 + j) _ 27 (0, 0) (heap_alloc_last wr _), Nat.zero_add]
            rw [Array.getElem?_toList] at hj; exact hj
          have HV5 := Lib.hid hv5
          have hbxl := (Array.getElem?_eq_some_iff.1 HXj.out).1
          have hwl := HBj.out.size
          have HA : Hid (Below wr.heap.size wr (wr.alloc (.cells #[.int .i64 k5, .int .u64 (u5 0), .int .u64 (u5 1), .int .u64 (u5 2), .int .u64 (u5 3), .slice p5 n5 c5'] 27))) := Lib.hid ((Below.refl _ _).alloc (Nat.le_refl _) _)
          clear cc5 hc5 hx x1 x2 x3 x4 hv5
          go_wp2_with (at_builtin; refine wpList_append_own_at _ rfl (.tmp 50) (.tmp 56) 25 rfl w.heap.size 27 i0 (.agg (nodeC 0 u0 (.slice none 0 0))) 6 64 Tryd.underlying25 hi hz0 hz1 hz2 rfl (by decide) (.slice a (ts.length + j) cc) (ts.length + j) (flat xs) rfl ?c0 ⟨wr.heap.size, 0, none⟩ 1 1 (nodeC k5 u5 (.slice p5 n5 c5')).toList rfl rfl ?c1 ?c2 ?c3 ?c4 ?c5 ?_)
          case c0 => exact X4.out
          case c1 => exact HC0.out
          case c2 => exact fun u hu => (Array.all_eq_true_iff_forall_mem.1 (nodeC_one k5 u5 p5 n5 c5')) u (by simpa using hu)
          case c3 => unfold maxLen; omega
          case c4 => omega
          case c5 => simp; omega
          intro v' w7 hown7 hgrow7 _ hat7
          have hbase := fun g (hg : (Value.slice a (ts.length + j) cc).ownBlock = some g) => (World.ownsRow.lt X4.out g hg).1
          have htk : ts ++ ps.take (j + 1) = (ts ++ ps.take j) ++ [ps[j]] := by rw [List.take_succ_eq_append_getElem hlt2, List.append_assoc]
          have HTA : Hid (TB w D (ts ++ ps.take (j + 1)) v' w7) := Lib.hid (by
            rw [htk]
            exact TB.app X1.out X2.out X3.out HV5.out (by rw [hlj]; exact hown7))
          have HBA : Hid (Below w.heap.size w w7) := Lib.hid (below_grown (HBj.out.trans (HA.out.mono hwl)) hgrow7 hbase (Nat.le_trans hwl HA.out.size))
          have HXA : Hid (w7.heap[bx]? = some (.cells #[.int .i64 k1, .int .u64 (u1 0), .int .u64 (u1 1), .int .u64 (u1 2), .int .u64 (u1 3), .slice (some ⟨b', o', none⟩) ps.length c1] 27 (0, 0))) := Lib.hid
            ((hgrow7.block bx (Nat.lt_of_lt_of_le hbxl HA.out.size) (fun e => hown bx e.symm rfl)).trans ((HA.out.block bx hbxl).trans HXj.out))
          have hoA : ∀ g', v'.ownBlock = some g' → g' ≠ bx := fun g' hg' => by
            rcases hat7 with e | e
            · exact hown g' (e.symm.trans hg')
            · rw [e] at hg'
              have h1 := Option.some.inj hg'
              have h2 := HA.out.size
              omega
          clear hown7 hgrow7 hat7 hbase htk X1 X2 X3 X4 HC0 HV5 HTj HBj HXj hown HA f0 f1 f2 f3 f4 f5 c5
          go_wp2_with fail
          go_roundw
          case rel => exact ⟨j + 1, by go_num, by omega, HTA, HBA, HXA, hoA⟩
          case measure => simp [intOf]; omega
        · obtain rfl : j = ps.length := by omega
          have hlt3 : ¬ ((ps.length : Nat) : Int) < ((ps.length : Nat) : Int) := by omega
          rw [List.take_length] at HTj
          go_wp2_with fail
          go_roundw
          case rel => exact ⟨ts ++ ps, q + 1, by go_num, by rw [szL_app]; omega, HTj, HBj⟩
          case measure => simp [intOf]; omega
end Go.Proofs.YtmjojahkbjlcdaaDoor
end
