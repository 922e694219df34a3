/- Texts of package regs, one behind the other. -/
import Derived.Test.YtmjojahkbjlcdaaDoorProg
import Derived.Test.YtmjojahkbjlcdaaDoorY3
import Derived.Test.YtmjojahkbjlcdaaDoorY4
import Derived.WalkKit
import Derived.WalkLawsBesides
import Derived.WalkSpells
import Derived.Outline
import Derived.Lib.Walk
import Derived.Lib.Hide
import Derived.RegionTactic
import Derived.LoopTactic
import Derived.Below
import Derived.IntWalk
import Derived.Deep.QuietTactic
import Derived.BigQuiet
import Derived.Test.YtmjojahkbjlcdaaDoorG46
import Derived.Test.YtmjojahkbjlcdaaDoorY20
import Derived.Deep.Cut
import Derived.Deep.CutRange
section
/- Package regs: the reader's small steps: what comes next. -/
namespace Go.Proofs.YtmjojahkbjlcdaaDoor
set_option linter.unusedSimpArgs false
set_option linter.unusedVariables false
set_option maxRecDepth 100000
open Go.RowKit

theorem runS_pth {M : Net} {l : Nat → Bool} (hs : ∀ c j, M.has c j = true → j < 512) : ∀ (cs : List UInt8) (S : Nat → Bool), (∀ i, S i = true → i < 512) →
    ((∃ q, runS M S cs q = true ∧ l q = true) ↔ ∃ p q, S p = true ∧ Pth (frE 0 M.beh) M.has p cs q ∧ l q = true)
  | [], S, hS => by
    constructor
    · rintro ⟨q, h, g⟩; exact ⟨q, q, h, .nil q, g⟩
    · rintro ⟨p, q, h, k, g⟩; cases k; exact ⟨p, h, g⟩
  | c :: cs, S, hS => by
    have hS' : ∀ i, andS (nxS M S) (M.has c.toNat) i = true → i < 512 := fun i h => by
      simp only [andS, Bool.and_eq_true] at h; exact hs _ _ h.2
    have ih := runS_pth (l := l) hs cs (andS (nxS M S) (M.has c.toNat)) hS'
    rw [runS, ih]
    constructor
    · rintro ⟨p, q, h, k, g⟩
      simp only [andS, Bool.and_eq_true] at h
      obtain ⟨i, hi, hp⟩ := List.any_eq_true.1 h.1
      simp only [Bool.and_eq_true] at hp
      exact ⟨i, q, hp.1, .cons (by simp [frE, hp.2]) h.2 k, g⟩
    · rintro ⟨p, q, h, k, g⟩
      cases k with
      | @cons _ r _ _ _ h1 h2 k =>
        simp only [frE, Nat.zero_le, decide_true, Bool.true_and] at h1
        exact ⟨r, q, by simp only [andS, Bool.and_eq_true]; exact ⟨List.any_eq_true.2 ⟨p, List.mem_range.2 (hS p h), by simp [h, h1]⟩, h2⟩, k, g⟩
/-- What is told of a pattern that may be is what it matches. -/
theorem matB_ok {t : RT} (hm : mayB t = true) (hn : sz t ≤ 512) (x : List UInt8) : matB t x = true ↔ Lg t x := by
  have h := lay_ok t N0 hm wfn0
  have hln := lay_n t N0
  have h0 : N0.n = 0 := rfl
  rw [h.acc (layN t N0).1.has (fun _ _ _ _ => rfl) x]
  cases x with
  | nil =>
    show (layN t N0).2.e = true ↔ _
    constructor
    · intro e; exact .inl ⟨rfl, e⟩
    · rintro (⟨_, e⟩ | ⟨c, x, p, q, e, _⟩)
      · exact e
      · cases e
  | cons c cs =>
    show nzS (andS (runS (layN t N0).1 (andS (layN t N0).2.f ((layN t N0).1.has c.toNat)) cs) (layN t N0).2.l) = true ↔ _
    have hs : ∀ c j, (layN t N0).1.has c j = true → j < 512 := fun c j e => by have := h.wf.hs c j e; omega
    have key := runS_pth (l := (layN t N0).2.l) hs cs (andS (layN t N0).2.f ((layN t N0).1.has c.toNat)) (fun i e => by simp only [andS, Bool.and_eq_true] at e; exact hs _ _ e.2)
    constructor
    · intro e
      obtain ⟨q, _, hq⟩ := List.any_eq_true.1 e
      simp only [andS, Bool.and_eq_true] at hq
      obtain ⟨p, q, hp, k, g⟩ := key.1 ⟨q, hq.1, hq.2⟩
      simp only [andS, Bool.and_eq_true] at hp
      exact .inr ⟨c, cs, p, q, rfl, hp.1, hp.2, k, g⟩
    · rintro (⟨e, _⟩ | ⟨c', x, p, q, e, hp, hd, k, g⟩)
      · cases e
      · cases e
        obtain ⟨q', h1, h2⟩ := key.2 ⟨p, q, by simp [andS, hp, hd], k, g⟩
        have := h.l q' h2
        exact List.any_eq_true.2 ⟨q', List.mem_range.2 (by omega), by simp [andS, h1, h2]⟩
def uA (i : Nat) : Int := if i = 1 then 8589934592 else 0
def uB (i : Nat) : Int := if i = 1 then 17179869184 else 0
/-- The pattern that is asked of whoever does something at all. -/
def Tab : RT := .mk 3 u0 [.mk 2 uA [], .mk 5 u0 [.mk 2 uB []]]
theorem tab_check : checkE Tab = 0 := by kernel_rfl
theorem tab_may : mayB Tab = true := by kernel_rfl
theorem tab_sz : sz Tab = 4 := by kernel_rfl
theorem tab_print : prtP Tab = ([97, 98, 42], 0) := by kernel_rfl
theorem tab_ok : okT Tab := by
  have a : okU uA := fun i hi => by rcases (by omega : i = 0 ∨ i = 1 ∨ i = 2 ∨ i = 3) with rfl | rfl | rfl | rfl <;> kernel_rfl
  have b : okU uB := fun i hi => by rcases (by omega : i = 0 ∨ i = 1 ∨ i = 2 ∨ i = 3) with rfl | rfl | rfl | rfl <;> kernel_rfl
  simp [Tab, okT, okL, a, b]
theorem tab_yes : Lg Tab [97, 98, 98] := by
  have hA : Lg (.mk 2 uA []) [97] := by rw [Lg]; simp; decide
  have hB : Lg (.mk 2 uB []) [98] := by rw [Lg]; simp; decide
  have hS : Lg (.mk 5 u0 [.mk 2 uB []]) [98, 98] := by
    rw [Lg, show LgH [.mk 2 uB []] = Lg (.mk 2 uB []) by funext w; rw [LgH]]
    simp
    exact .app (a := [98]) (b := [98]) hB (.app (a := [98]) (b := []) hB .nil)
  rw [Tab, Lg]
  simp
  rw [LgR]
  refine ⟨[97], [98, 98], rfl, hA, ?_⟩
  rw [LgR]
  exact ⟨[98, 98], [], rfl, hS, by rw [LgR]⟩
theorem tab_no : ¬ Lg Tab [98, 97] := by
  rw [Tab, Lg]
  simp
  rw [LgR]
  rintro ⟨a, b, e, h, _⟩
  rw [Lg] at h
  simp at h
  obtain ⟨c, rfl, hc⟩ := h
  simp at e
  obtain ⟨rfl, _⟩ := e
  revert hc
  decide
theorem tab_m1 : mtP Tab [97, 98, 98] = (true, 0) := by
  unfold mtP
  rw [if_neg (by rw [tab_check]; decide), if_neg (by decide), (matB_ok tab_may (by rw [tab_sz]; decide) _).2 tab_yes]
theorem tab_m2 : mtP Tab [98, 97] = (false, 0) := by
  unfold mtP
  rw [if_neg (by rw [tab_check]; decide), if_neg (by decide)]
  have : matB Tab [98, 97] = false := by
    cases h : matB Tab [98, 97] with
    | false => rfl
    | true => exact absurd ((matB_ok tab_may (by rw [tab_sz]; decide) _).1 h) tab_no
  rw [this]
theorem parse_ab : ∃ ua ub, wholeF [97, 98, 42] = .ok (.mk 3 u0 [.mk 2 ua [], .mk 5 u0 [.mk 2 ub []]]) ∧ ∀ i, i < 4 → ua i = uA i ∧ ub i = uB i := by
  refine ⟨_, _, rfl, fun i hi => ?_⟩
  rcases (by omega : i = 0 ∨ i = 1 ∨ i = 2 ∨ i = 3) with rfl | rfl | rfl | rfl <;> exact ⟨by kernel_rfl, by kernel_rfl⟩
theorem parse_a1 : wholeF [97, 41] = .error [41] := by kernel_rfl
end Go.Proofs.YtmjojahkbjlcdaaDoor
end
section
/- Package regs: the reader's small steps: what comes next. -/
namespace Go.Proofs.YtmjojahkbjlcdaaDoor
set_option linter.unusedSimpArgs false
set_option linter.unusedVariables false
set_option maxRecDepth 100000
open Go.RowKit

set_option maxHeartbeats 4000000 in
theorem set_97 (w : World) : Calls Tryd.prog 33 #[.int .u8 97] w fun e w' => e = .returned (.agg #[.int .i64 2, .int .u64 (uA 0), .int .u64 (uA 1), .int .u64 (uA 2), .int .u64 (uA 3), .slice none 0 0]) ∧ Below w.heap.size w w' := by
  have hz := zero27l
  go_enter Tryd.func33, Tryd.ntmps33
  go_wp2
  refine bodyPost_ret (v := _) (by simp [results, Tryd.results33, go_sem, uA]) rfl ⟨rfl, ?_⟩
  exact ((Below.refl _ _).alloc (Nat.le_refl _) _).alloc (by simp) _
set_option maxHeartbeats 4000000 in
theorem set_98 (w : World) : Calls Tryd.prog 33 #[.int .u8 98] w fun e w' => e = .returned (.agg #[.int .i64 2, .int .u64 (uB 0), .int .u64 (uB 1), .int .u64 (uB 2), .int .u64 (uB 3), .slice none 0 0]) ∧ Below w.heap.size w w' := by
  have hz := zero27l
  go_enter Tryd.func33, Tryd.ntmps33
  go_wp2
  refine bodyPost_ret (v := _) (by simp [results, Tryd.results33, go_sem, uB]) rfl ⟨rfl, ?_⟩
  exact ((Below.refl _ _).alloc (Nat.le_refl _) _).alloc (by simp) _
theorem parse_abP {ua ub : Nat → Int} (h : wholeF [97, 98, 42] = .ok (.mk 3 u0 [.mk 2 ua [], .mk 5 u0 [.mk 2 ub []]])) (w : World) : Calls Tryd.prog 21 #[.string ⟨#[97, 98, 42]⟩] w (ParsedP (.mk 3 u0 [.mk 2 ua [], .mk 5 u0 [.mk 2 ub []]]) w) := by
  refine (parse_any5 ⟨#[97, 98, 42]⟩ (by decide) w).mono fun e w' k => ?_
  unfold ParseP at k
  rw [if_neg (by decide)] at k
  have h' : wholeF (⟨#[97, 98, 42]⟩ : ByteArray).data.toList = _ := h
  rw [h'] at k
  simp only at k
  rw [if_neg (by simp [dep, depL])] at k
  exact k
theorem parse_a1P (w : World) : Calls Tryd.prog 21 #[.string ⟨#[97, 41]⟩] w fun e w' => e = ret3 zeroR 1 50 ∧ Below w.heap.size w w' := by
  refine (parse_any5 ⟨#[97, 41]⟩ (by decide) w).mono fun e w' k => ?_
  unfold ParseP at k
  rw [if_neg (by decide)] at k
  have h' : wholeF (⟨#[97, 41]⟩ : ByteArray).data.toList = _ := parse_a1
  rw [h'] at k
  exact k
theorem six_all {P : Nat → Prop} (h0 : P 0) (h1 : P 1) (h2 : P 2) (h3 : P 3) (h4 : P 4) (h5 : P 5) : ∀ j, j < 6 → P j := fun j hj => by
  rcases (by omega : j = 0 ∨ j = 1 ∨ j = 2 ∨ j = 3 ∨ j = 4 ∨ j = 5) with rfl | rfl | rfl | rfl | rfl | rfl <;> assumption
theorem tab_rv {D : Nat → Prop} {w : World} {b1 b2 : Nat} {ua ub : Nat → Int} (he : ∀ i, i < 4 → ua i = uA i ∧ ub i = uB i) (h1 : w.heap[b1]? = some (.cells (#[.int .i64 2, .int .u64 (uB 0), .int .u64 (uB 1), .int .u64 (uB 2), .int .u64 (uB 3), .slice none 0 0] : Array Value) 27 (0, 0))) (h2 : w.heap[b2]? = some (.cells (#[.int .i64 2, .int .u64 (uA 0), .int .u64 (uA 1), .int .u64 (uA 2), .int .u64 (uA 3), .slice none 0 0, .int .i64 5, .int .u64 0, .int .u64 0, .int .u64 0, .int .u64 0, .slice (some ⟨b1, 0, none⟩) 1 1] : Array Value) 27 (0, 0))) (d1 : D b1) (d2 : D b2) :
    RV D w (.mk 3 u0 [.mk 2 ua [], .mk 5 u0 [.mk 2 ub []]]) (.agg (#[.int .i64 3, .int .u64 0, .int .u64 0, .int .u64 0, .int .u64 0, .slice (some ⟨b2, 0, none⟩) 2 2] : Array Value)) := by
  have n1 : nodeC 2 ub (.slice none 0 0) = (#[.int .i64 2, .int .u64 (uB 0), .int .u64 (uB 1), .int .u64 (uB 2), .int .u64 (uB 3), .slice none 0 0] : Array Value) := by
    simp only [nodeC]; rw [(he 0 (by omega)).2, (he 1 (by omega)).2, (he 2 (by omega)).2, (he 3 (by omega)).2]
  have n2 : nodeC 2 ua (.slice none 0 0) = (#[.int .i64 2, .int .u64 (uA 0), .int .u64 (uA 1), .int .u64 (uA 2), .int .u64 (uA 3), .slice none 0 0] : Array Value) := by
    simp only [nodeC]; rw [(he 0 (by omega)).1, (he 1 (by omega)).1, (he 2 (by omega)).1, (he 3 (by omega)).1]
  have l1 : RV D w (.mk 2 ub []) (.agg (#[.int .i64 2, .int .u64 (uB 0), .int .u64 (uB 1), .int .u64 (uB 2), .int .u64 (uB 3), .slice none 0 0] : Array Value)) := by rw [← n1]; exact .leaf 2 ub none 0
  have l2 : RV D w (.mk 2 ua []) (.agg (#[.int .i64 2, .int .u64 (uA 0), .int .u64 (uA 1), .int .u64 (uA 2), .int .u64 (uA 3), .slice none 0 0] : Array Value)) := by rw [← n2]; exact .leaf 2 ua none 0
  have s1 : RV D w (.mk 5 u0 [.mk 2 ub []]) (.agg (nodeC 5 u0 (.slice (some ⟨b1, 0, none⟩) 1 1))) := by
    refine .node 5 u0 [.mk 2 ub []] b1 0 1 (fun _ => (#[.int .i64 2, .int .u64 (uB 0), .int .u64 (uB 1), .int .u64 (uB 2), .int .u64 (uB 3), .slice none 0 0] : Array Value)) d1 (by simp) (fun i hi => ?_) (fun i hi => ?_) (fun j => by unfold World.frozen?; simp [h1])
    · have : i = 0 := by simpa using hi
      subst this; exact l1
    · have : i = 0 := by simpa using hi
      subst this
      refine six_all ?_ ?_ ?_ ?_ ?_ ?_ <;> exact ⟨_, rfl, (cell_of_row w b1 _ _ 27 (0, 0) h1).trans rfl⟩
  refine .node 3 u0 [.mk 2 ua [], .mk 5 u0 [.mk 2 ub []]] b2 0 2 (fun i => if i = 0 then (#[.int .i64 2, .int .u64 (uA 0), .int .u64 (uA 1), .int .u64 (uA 2), .int .u64 (uA 3), .slice none 0 0] : Array Value) else nodeC 5 u0 (.slice (some ⟨b1, 0, none⟩) 1 1)) d2 (by simp) (fun i hi => ?_) (fun i hi => ?_) (fun j => by unfold World.frozen?; simp [h2])
  · have : i = 0 ∨ i = 1 := by simp at hi; omega
    rcases this with rfl | rfl
    · exact l2
    · exact s1
  · have : i = 0 ∨ i = 1 := by simp at hi; omega
    rcases this with rfl | rfl
    · refine six_all ?_ ?_ ?_ ?_ ?_ ?_ <;> exact ⟨_, rfl, (cell_of_row w b2 _ _ 27 (0, 0) h2).trans rfl⟩
    · refine six_all ?_ ?_ ?_ ?_ ?_ ?_ <;> exact ⟨_, rfl, (cell_of_row w b2 _ _ 27 (0, 0) h2).trans rfl⟩
set_option maxHeartbeats 8000000 in
theorem alive_any (w : World) (hw0 : 0 < w.heap.size) (hT : Tb w) : Calls Tryd.prog 16 #[] w fun e w' => e = .returned (.bool true) ∧ Below w.heap.size w w' := by
  obtain ⟨ua, ub, hab, he⟩ := parse_ab
  have HA := Lib.hid (parse_abP hab)
  have HE := Lib.hid he
  have HT0 := Lib.hid hT
  have hz := zero27l
  clear hab he hT
  go_enter Tryd.func16, Tryd.ntmps16
  go_wp2_with fail
  refine (HA.out _).mono ?_
  rintro _ w1 ⟨⟨v, rfl, hv⟩, hb1⟩
  obtain ⟨k, u, p, n, c, rfl⟩ := hv.form2
  have HV := Lib.hid hv
  have HB1 := Lib.hid hb1
  unfold ret3
  clear hv hb1 HA
  have S2 := Lib.hid ((Sb.start w1).alloc (.cells #[.int .i64 k, .int .u64 (u 0), .int .u64 (u 1), .int .u64 (u 2), .int .u64 (u 3), .slice p n c] 27))
  go_upto_region 2 with fail
  generalize (w1.alloc (.cells #[.int .i64 k, .int .u64 (u 0), .int .u64 (u 1), .int .u64 (u 2), .int .u64 (u 3), .slice p n c] 27)) = wa at *
  go_wp2_with fail
  refine (set_97 _).mono ?_
  rintro _ w2 ⟨rfl, hb⟩
  have S3 := Lib.hid (S2.out.up hb)
  clear hb S2
  go_wp2_with fail
  refine (set_98 _).mono ?_
  rintro _ w3 ⟨rfl, hb⟩
  have S4 := Lib.hid (S3.out.up hb)
  clear hb S3
  go_upto_region 3 with fail
  refine at_world (fun y => Sb w1 y [(w3.heap.size + 1 + 1, .cells (#[.int .i64 3, .int .u64 0, .int .u64 0, .int .u64 0, .int .u64 0, .slice (some ⟨w3.heap.size + 1, 0, none⟩) 2 2] : Array Value) 27), (w3.heap.size + 1, .cells (#[.int .i64 2, .int .u64 (uA 0), .int .u64 (uA 1), .int .u64 (uA 2), .int .u64 (uA 3), .slice none 0 0, .int .i64 5, .int .u64 0, .int .u64 0, .int .u64 0, .int .u64 0, .slice (some ⟨w3.heap.size, 0, none⟩) 1 1] : Array Value) 27), (w3.heap.size, .cells (#[.int .i64 2, .int .u64 (uB 0), .int .u64 (uB 1), .int .u64 (uB 2), .int .u64 (uB 3), .slice none 0 0] : Array Value) 27), (w1.heap.size, .cells #[.int .i64 k, .int .u64 (u 0), .int .u64 (u 1), .int .u64 (u 2), .int .u64 (u 3), .slice p n c] 27)]) (by simpa using (((S4.out.alloc (.cells (#[.int .i64 2, .int .u64 (uB 0), .int .u64 (uB 1), .int .u64 (uB 2), .int .u64 (uB 3), .slice none 0 0] : Array Value) 27)).alloc (.cells (#[.int .i64 2, .int .u64 (uA 0), .int .u64 (uA 1), .int .u64 (uA 2), .int .u64 (uA 3), .slice none 0 0, .int .i64 5, .int .u64 0, .int .u64 0, .int .u64 0, .int .u64 0, .slice (some ⟨w3.heap.size, 0, none⟩) 1 1] : Array Value) 27)).alloc (.cells (#[.int .i64 3, .int .u64 0, .int .u64 0, .int .u64 0, .int .u64 0, .slice (some ⟨w3.heap.size + 1, 0, none⟩) 2 2] : Array Value) 27))) fun y hy => ?_
  have S5 := Lib.hid hy
  have hq1 := hy.tl.tl.heap
  have hq2 := hy.tl.heap
  have hsz := hy.1.size
  have hlt0 := hy.lt
  have hge : w1.heap.size ≤ w3.heap.size := S4.out.1.size
  have hE : ∀ b, (w1.heap.size ≤ b ∧ b < y.heap.size) → b < y.heap.size := fun b h => h.2
  have HW := Lib.hid (tab_rv (D := fun b => w1.heap.size ≤ b ∧ b < y.heap.size) (ua := uA) (ub := uB) (fun i _ => ⟨rfl, rfl⟩) hq1 hq2 ⟨by omega, by omega⟩ ⟨by omega, by omega⟩)
  have HW' := Lib.hid (tab_rv (D := fun b => w1.heap.size ≤ b ∧ b < y.heap.size) HE.out hq1 hq2 ⟨by omega, by omega⟩ ⟨by omega, by omega⟩)
  have HR := Lib.hid (RV.mono (w' := y) (fun b h => h) (fun b hb _ => hy.1.block b hb.2) HV.out)
  generalize w3.heap.size + 1 + 1 = bw at *
  clear hy hq1 hq2 S4 HV HE
  have HWy := Lib.hid fun z (hb : Below y.heap.size y z) => (⟨RV.mono (fun b h => h) (fun b hb' _ => hb.block b hb'.2) HW.out, fun b h => Nat.lt_of_lt_of_le h.2 hb.size⟩ : RV (fun b => w1.heap.size ≤ b ∧ b < y.heap.size) z Tab (.agg (#[.int .i64 3, .int .u64 0, .int .u64 0, .int .u64 0, .int .u64 0, .slice (some ⟨w3.heap.size + 1, 0, none⟩) 2 2] : Array Value)) ∧ ∀ b, (w1.heap.size ≤ b ∧ b < y.heap.size) → b < z.heap.size)
  have HTy := Lib.hid fun z (hb : Below y.heap.size y z) => (HT0.out.mono ((hb.block 0 (by omega)).trans ((S5.out.1.block 0 (by have := HB1.out.size; omega)).trans (HB1.out.block 0 hw0))) : Tb z)
  have hwd : wid Tab ≤ 9223372036854775806 := by decide
  have b0 := Below.refl y.heap.size y
  have d0 : y.cell? ⟨bw, 0, none⟩ = some (.int .i64 3) := S5.out.cell 0
  have d1 : y.cell? ⟨bw, 1, none⟩ = some (.int .u64 0) := S5.out.cell 1
  have d2 : y.cell? ⟨bw, 2, none⟩ = some (.int .u64 0) := S5.out.cell 2
  have d3 : y.cell? ⟨bw, 3, none⟩ = some (.int .u64 0) := S5.out.cell 3
  have d4 : y.cell? ⟨bw, 4, none⟩ = some (.int .u64 0) := S5.out.cell 4
  have d5 : y.cell? ⟨bw, 5, none⟩ = some (.slice (some ⟨w3.heap.size + 1, 0, none⟩) 2 2) := S5.out.cell 5
  have hP := printr_any (HWy.out y b0).2 hwd tab_ok (HWy.out y b0).1
  rw [tab_print] at hP
  have HPr := Lib.hid hP
  clear hP b0
  go_wp2_with fail
  refine HPr.out.mono ?_
  rintro _ y1 ⟨rfl, hb⟩
  have K1 := Lib.hid hb
  have S6 := Lib.hid (S5.out.up hb)
  have hM := matches_any [97, 98, 98] (HWy.out y1 hb).2 hwd tab_ok (by have := hb.size; omega) (HTy.out y1 hb) (HWy.out y1 hb).1
  rw [tab_m1] at hM
  have HM1 := Lib.hid hM
  clear hb hM HPr d0 d1 d2 d3 d4 d5
  have d0 : y1.cell? ⟨bw, 0, none⟩ = some (.int .i64 3) := S6.out.cell 0
  have d1 : y1.cell? ⟨bw, 1, none⟩ = some (.int .u64 0) := S6.out.cell 1
  have d2 : y1.cell? ⟨bw, 2, none⟩ = some (.int .u64 0) := S6.out.cell 2
  have d3 : y1.cell? ⟨bw, 3, none⟩ = some (.int .u64 0) := S6.out.cell 3
  have d4 : y1.cell? ⟨bw, 4, none⟩ = some (.int .u64 0) := S6.out.cell 4
  have d5 : y1.cell? ⟨bw, 5, none⟩ = some (.slice (some ⟨w3.heap.size + 1, 0, none⟩) 2 2) := S6.out.cell 5
  go_wp2_with fail
  refine HM1.out.mono ?_
  rintro _ y2 ⟨rfl, hb⟩
  have K2 := Lib.hid (K1.out.trans (hb.mono K1.out.size))
  have S7 := Lib.hid (S6.out.up hb)
  have hM := matches_any [98, 97] (HWy.out y2 K2.out).2 hwd tab_ok (by have := K2.out.size; omega) (HTy.out y2 K2.out) (HWy.out y2 K2.out).1
  rw [tab_m2] at hM
  have HM2 := Lib.hid hM
  clear hb hM HM1 K1 S6 d0 d1 d2 d3 d4 d5
  have d0 : y2.cell? ⟨bw, 0, none⟩ = some (.int .i64 3) := S7.out.cell 0
  have d1 : y2.cell? ⟨bw, 1, none⟩ = some (.int .u64 0) := S7.out.cell 1
  have d2 : y2.cell? ⟨bw, 2, none⟩ = some (.int .u64 0) := S7.out.cell 2
  have d3 : y2.cell? ⟨bw, 3, none⟩ = some (.int .u64 0) := S7.out.cell 3
  have d4 : y2.cell? ⟨bw, 4, none⟩ = some (.int .u64 0) := S7.out.cell 4
  have d5 : y2.cell? ⟨bw, 5, none⟩ = some (.slice (some ⟨w3.heap.size + 1, 0, none⟩) 2 2) := S7.out.cell 5
  go_wp2_with fail
  refine HM2.out.mono ?_
  rintro _ y3 ⟨rfl, hb⟩
  have K3 := Lib.hid (K2.out.trans (hb.mono K2.out.size))
  have S8 := Lib.hid (S7.out.up hb)
  clear hb HM2 K2 S7 d0 d1 d2 d3 d4 d5
  go_wp2_with fail
  refine (parse_a1P _).mono ?_
  rintro _ y4 ⟨rfl, hb⟩
  have K4 := Lib.hid (K3.out.trans (hb.mono K3.out.size))
  have S9 := Lib.hid (S8.out.up hb)
  unfold ret3 zeroR nodeC u0
  clear hb K3 S8
  go_upto_region 7 with fail
  have hly : w1.heap.size < y4.heap.size := S9.out.tl.tl.tl.lt
  have hlw : bw < y4.heap.size := S9.out.lt
  have d0 : y4.cell? ⟨bw, 0, none⟩ = some (.int .i64 3) := S9.out.cell 0
  have d1 : y4.cell? ⟨bw, 1, none⟩ = some (.int .u64 0) := S9.out.cell 1
  have d2 : y4.cell? ⟨bw, 2, none⟩ = some (.int .u64 0) := S9.out.cell 2
  have d3 : y4.cell? ⟨bw, 3, none⟩ = some (.int .u64 0) := S9.out.cell 3
  have d4 : y4.cell? ⟨bw, 4, none⟩ = some (.int .u64 0) := S9.out.cell 4
  have d5 : y4.cell? ⟨bw, 5, none⟩ = some (.slice (some ⟨w3.heap.size + 1, 0, none⟩) 2 2) := S9.out.cell 5
  have e0 : y4.cell? ⟨w1.heap.size, 0, none⟩ = some (.int .i64 k) := S9.out.tl.tl.tl.cell 0
  have e1 : y4.cell? ⟨w1.heap.size, 1, none⟩ = some (.int .u64 (u 0)) := S9.out.tl.tl.tl.cell 1
  have e2 : y4.cell? ⟨w1.heap.size, 2, none⟩ = some (.int .u64 (u 1)) := S9.out.tl.tl.tl.cell 2
  have e3 : y4.cell? ⟨w1.heap.size, 3, none⟩ = some (.int .u64 (u 2)) := S9.out.tl.tl.tl.cell 3
  have e4 : y4.cell? ⟨w1.heap.size, 4, none⟩ = some (.int .u64 (u 3)) := S9.out.tl.tl.tl.cell 4
  have e5 : y4.cell? ⟨w1.heap.size, 5, none⟩ = some (.slice p n c) := S9.out.tl.tl.tl.cell 5
  have hza : Below y4.heap.size y4 (y4.alloc (.cells #[.int .i64 0, .int .u64 0, .int .u64 0, .int .u64 0, .int .u64 0, .slice none 0 0] 27)) := (Below.refl _ _).alloc (Nat.le_refl _) _
  have K5 := K4.out.trans (hza.mono K4.out.size)
  have S10 := Lib.hid (S9.out.up hza)
  have HS := Lib.hid (same_true 3 _ (by simp [dep, depL]) (by simp [wid, widL]) (fun b hb => by have := K5.size; omega) (fun b hb => Nat.lt_of_lt_of_le hb.2 K5.size) (RV.mono (fun b h => h) (fun b hb hlt => K5.block b hlt) HR.out) (RV.mono (fun b h => h) (fun b hb _ => K5.block b hb.2) HW'.out))
  have K5' := Lib.hid K5
  clear K5 hza
  go_wp2_with fail
  refine HS.out.mono ?_
  rintro _ y5 ⟨rfl, hb⟩
  have K6 := Lib.hid (K5'.out.trans (hb.mono K5'.out.size))
  have S11 := Lib.hid (S10.out.up hb)
  have hZ := size_any (HWy.out y5 K6.out).2 hwd (HWy.out y5 K6.out).1
  rw [tab_sz] at hZ
  have HZ := Lib.hid hZ
  clear hb hZ HS K5' S10 d0 d1 d2 d3 d4 d5 e0 e1 e2 e3 e4 e5 S9 K4
  have d0 : y5.cell? ⟨bw, 0, none⟩ = some (.int .i64 3) := S11.out.cell 0
  have d1 : y5.cell? ⟨bw, 1, none⟩ = some (.int .u64 0) := S11.out.cell 1
  have d2 : y5.cell? ⟨bw, 2, none⟩ = some (.int .u64 0) := S11.out.cell 2
  have d3 : y5.cell? ⟨bw, 3, none⟩ = some (.int .u64 0) := S11.out.cell 3
  have d4 : y5.cell? ⟨bw, 4, none⟩ = some (.int .u64 0) := S11.out.cell 4
  have d5 : y5.cell? ⟨bw, 5, none⟩ = some (.slice (some ⟨w3.heap.size + 1, 0, none⟩) 2 2) := S11.out.cell 5
  go_wp2_with fail
  refine HZ.out.mono ?_
  rintro _ y6 ⟨rfl, hb⟩
  have K7 := Lib.hid (HB1.out.trans (((S11.out.1.trans (hb.mono S11.out.1.size))).mono HB1.out.size))
  clear hb
  go_wp2_with fail
  go_ret
  exact ⟨rfl, K7.out⟩
end Go.Proofs.YtmjojahkbjlcdaaDoor
end
