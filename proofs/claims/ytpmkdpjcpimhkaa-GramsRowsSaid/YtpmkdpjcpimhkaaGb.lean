/- Package grams. -/
import Derived.Test.YtpmkdpjcpimhkaaGa
import Derived.Deep.SlicePairs
import Derived.Deep.Slices
import Derived.Laws.IdiomArrays
import Derived.OpenShut
import Derived.WideBlind
import Derived.Great.BuildSlice
import Derived.WalkKit
import Derived.Maps.OwnSet
import Derived.Maps.OwnOps
import Derived.Maps.Own
import Derived.DeepKeys5
import Derived.BigFrame
import Derived.WalkMore
import Derived.ScopeJumps
import Derived.StillTailTactics
import Derived.Stop.BytesEq
import Derived.WalkLawsBesides
import Derived.WalkSpells
import Derived.Outline
import Derived.Lib.Walk
import Derived.Lib.Hide
import Derived.Lib.Slices
import Derived.Lib.Strings
import Derived.RegionTactic
import Derived.LoopTactic
import Derived.Below
import Derived.IntWalk
import Derived.Deep.QuietTactic
import Derived.BigQuiet
import Derived.Deep.MidRow
import Derived.Maps.AppendAt
import Derived.Laws.Rows
import Derived.Laws.Tables
import Derived.Deep.WholeRow
import Derived.Deep.Cut
import Derived.Deep.CutRange
import Derived.Lib.SliceRun
import Derived.Laws.MakeOwn
import Derived.Deep.RegionLaw
import Derived.Deep.RegionLawGrows
import Derived.Deep.RegionHeld3
import Derived.RegionCalls
import Derived.Deep.RegionWith
import Derived.Deep.Light
import Derived.Laws.CopyOwn
import Derived.Laws.ResultCell
namespace Go.Proofs.Ytpmkdpjcpimhkaa
set_option linter.unusedSimpArgs false
set_option linter.unusedVariables false
set_option maxRecDepth 100000
open Go.RowKit
/- Words of bits; what the code's rounds answer, said by what symbols become. -/
def bitsN (g : Nat → Bool) : Nat → Nat
  | 0 => 0
  | n + 1 => (g n).toNat * 2 ^ n + bitsN g n
theorem bitsN_lt (g : Nat → Bool) : ∀ n, bitsN g n < 2 ^ n
  | 0 => by simp [bitsN]
  | n + 1 => by
    have := bitsN_lt g n
    simp only [bitsN, Nat.pow_succ]
    cases g n <;> simp <;> omega
theorem bitsN_test (g : Nat → Bool) : ∀ n k, (bitsN g n).testBit k = (decide (k < n) && g k)
  | 0, k => by simp [bitsN]
  | n + 1, k => by
    have h := bitsN_lt g n
    have ih := bitsN_test g n k
    simp only [bitsN]
    cases hg : g n
    · simp [ih]
      by_cases hk : k < n
      · simp [hk, show k < n + 1 by omega]
      · by_cases he : k = n
        · subst he; simp [hg]
        · simp [hk, show ¬ k < n + 1 by omega]
    · simp only [Bool.toNat_true, Nat.one_mul]
      by_cases he : k = n
      · subst he
        rw [Nat.testBit_two_pow_add_eq]
        simp [ih, hg]
      · by_cases hk : k < n
        · rw [Nat.testBit_two_pow_add_gt hk]; simp [ih, hk, show k < n + 1 by omega]
        · have h3 : 2 ^ n + bitsN g n < 2 ^ k := by
            have : 2 ^ (n + 1) ≤ 2 ^ k := Nat.pow_le_pow_right (by omega) (by omega)
            rw [Nat.pow_succ] at this; omega
          rw [Nat.testBit_lt_two_pow h3]; simp [show ¬ k < n + 1 by omega]
def wmax : Nat := 18446744073709551616
theorem p64 : (2 : Nat) ^ 64 = wmax := by decide
theorem w_ge {w k : Nat} (h : w < wmax) (hk : 64 ≤ k) : w.testBit k = false := by
  have e : (2 : Nat) ^ 64 ≤ 2 ^ k := Nat.pow_le_pow_right (by omega) hk
  rw [p64] at e
  exact Nat.testBit_lt_two_pow (by omega)
theorem w_ext {a b : Nat} (ha : a < wmax) (hb : b < wmax) (h : ∀ k, k < 64 → a.testBit k = b.testBit k) : a = b := by
  apply Nat.eq_of_testBit_eq
  intro k
  by_cases hk : k < 64
  · exact h k hk
  · rw [w_ge ha (by omega), w_ge hb (by omega)]
theorem w_or {a b : Nat} (ha : a < wmax) (hb : b < wmax) : a ||| b < wmax := by rw [← p64] at *; exact Nat.or_lt_two_pow ha hb
theorem w_pow {n : Nat} (h : n < 64) : 2 ^ n < wmax := by rw [← p64]; exact Nat.pow_lt_pow_right (by omega) h
open Classical in
noncomputable def wd (P : Nat → Prop) : Nat := bitsN (fun k => decide (P k)) 64
theorem wd_lt (P : Nat → Prop) : wd P < wmax := by rw [← p64]; exact bitsN_lt _ 64
theorem wd_test (P : Nat → Prop) (k : Nat) : (wd P).testBit k = true ↔ k < 64 ∧ P k := by
  unfold wd
  rw [bitsN_test]
  simp
theorem wd_eq {w : Nat} {P : Nat → Prop} (hw : w < wmax) (h : ∀ k, k < 64 → (w.testBit k = true ↔ P k)) : w = wd P := w_ext hw (wd_lt P) fun k hk => by
  rw [Bool.eq_iff_iff, wd_test, h k hk]; exact ⟨fun h => ⟨hk, h⟩, fun h => h.2⟩
theorem wd_congr {P Q : Nat → Prop} (h : ∀ k, k < 64 → (P k ↔ Q k)) : wd P = wd Q := wd_eq (wd_lt P) fun k hk => by rw [wd_test, ← h k hk]; exact ⟨fun h => h.2, fun h => ⟨hk, h⟩⟩
theorem wd_inj {P Q : Nat → Prop} (h : wd P = wd Q) (k : Nat) (hk : k < 64) : P k ↔ Q k := by
  have h1 := wd_test P k
  rw [h, wd_test Q k] at h1
  exact ⟨fun h => (h1.2 ⟨hk, h⟩).2, fun h => (h1.1 ⟨hk, h⟩).2⟩
theorem wd_and (P Q : Nat → Prop) : wd P &&& wd Q = wd (fun k => P k ∧ Q k) := wd_eq (Nat.lt_of_le_of_lt Nat.and_le_left (wd_lt P)) fun k hk => by
  rw [Nat.testBit_and, Bool.and_eq_true, wd_test, wd_test]
  exact ⟨fun h => ⟨h.1.2, h.2.2⟩, fun h => ⟨⟨hk, h.1⟩, hk, h.2⟩⟩
theorem wd_or (P Q : Nat → Prop) : wd P ||| wd Q = wd (fun k => P k ∨ Q k) := wd_eq (w_or (wd_lt P) (wd_lt Q)) fun k hk => by
  rw [Nat.testBit_or, Bool.or_eq_true, wd_test, wd_test]
  exact ⟨fun h => h.elim (fun h => .inl h.2) fun h => .inr h.2, fun h => h.elim (fun h => .inl ⟨hk, h⟩) fun h => .inr ⟨hk, h⟩⟩
theorem wd_pow {n : Nat} (h : n < 64) : 2 ^ n = wd (fun k => k = n) := wd_eq (w_pow h) fun k hk => by rw [Nat.testBit_two_pow]; simp; exact ⟨fun h => h.symm, fun h => h.symm⟩
theorem wd_below {n : Nat} (h : n ≤ 64) : 2 ^ n - 1 = wd (fun k => k < n) := wd_eq (by
    have : 2 ^ n ≤ 2 ^ 64 := Nat.pow_le_pow_right (by omega) h
    rw [p64] at this
    have h2 : 0 < 2 ^ n := Nat.two_pow_pos n
    unfold wmax at *; omega) fun k hk => by rw [Nat.testBit_two_pow_sub_one]; simp
/- What the code does in one round. -/
def ofW : List Int → Nat → Nat
  | [], s => s
  | x :: l, s => ofW l (s ||| 2 ^ x.toNat)
def comeS : List Pr → Nat → Nat
  | [], s => s
  | p :: l, s => comeS l (if s.testBit p.hd.toNat = true then s ||| ofW p.bd 0 else s)
def goodS : List Pr → Nat → Nat
  | [], s => s
  | p :: l, s => goodS l (if ofW p.bd 0 ||| s = s then s ||| 2 ^ p.hd.toNat else s)
abbrev Way := Int × Int
def led1 (T : List Nat) (w : Way) : List Nat := T.set w.2.toNat (T.getD w.2.toNat 0 ||| T.getD w.1.toNat 0)
def ledS (ws : List Way) (T : List Nat) : List Nat := ws.foldl led1 T
theorem ofW_lt : ∀ (l : List Int) (s : Nat), (∀ x ∈ l, 0 ≤ x ∧ x < 64) → s < wmax → ofW l s < wmax
  | [], s, _, hs => hs
  | x :: l, s, hl, hs => ofW_lt l _ (fun y hy => hl y (List.mem_cons_of_mem _ hy)) (w_or hs (w_pow (by have := hl x (List.mem_cons_self ..); omega)))
theorem ofW_test : ∀ (l : List Int) (s : Nat), (∀ x ∈ l, 0 ≤ x) → ∀ k : Nat, (ofW l s).testBit k = true ↔ s.testBit k = true ∨ (k : Int) ∈ l
  | [], s, _, k => by simp [ofW]
  | x :: l, s, hl, k => by
    have hx := hl x (List.mem_cons_self ..)
    rw [ofW, ofW_test l _ (fun y hy => hl y (List.mem_cons_of_mem _ hy)) k, Nat.testBit_or, Bool.or_eq_true, Nat.testBit_two_pow, List.mem_cons, or_assoc]
    refine or_congr Iff.rfl (or_congr ?_ Iff.rfl)
    simp; omega
theorem or_same {a b : Nat} : a ||| b = b ↔ ∀ k, a.testBit k = true → b.testBit k = true := by
  constructor
  · intro h k hk
    rw [← h, Nat.testBit_or, hk, Bool.true_or]
  · intro h
    apply Nat.eq_of_testBit_eq
    intro k
    rw [Nat.testBit_or]
    cases hk : a.testBit k
    · rfl
    · rw [h k hk]; rfl
theorem or_up (a b k : Nat) (h : a.testBit k = true) : (a ||| b).testBit k = true := by rw [Nat.testBit_or, h, Bool.true_or]
theorem comeS_up : ∀ (l : List Pr) (s k : Nat), s.testBit k = true → (comeS l s).testBit k = true
  | [], s, k, h => h
  | p :: l, s, k, h => by
    rw [comeS]
    refine comeS_up l _ k ?_
    split
    · exact or_up _ _ _ h
    · exact h
theorem goodS_up : ∀ (l : List Pr) (s k : Nat), s.testBit k = true → (goodS l s).testBit k = true
  | [], s, k, h => h
  | p :: l, s, k, h => by
    rw [goodS]
    refine goodS_up l _ k ?_
    split
    · exact or_up _ _ _ h
    · exact h
theorem comeS_lt : ∀ (l : List Pr) (s : Nat), (∀ p ∈ l, ∀ x ∈ p.bd, 0 ≤ x ∧ x < 64) → s < wmax → comeS l s < wmax
  | [], s, _, h => h
  | p :: l, s, hl, h => by
    rw [comeS]
    refine comeS_lt l _ (fun q hq => hl q (List.mem_cons_of_mem _ hq)) ?_
    split
    · exact w_or h (ofW_lt _ _ (hl p (List.mem_cons_self ..)) (by decide))
    · exact h
theorem goodS_lt : ∀ (l : List Pr) (s : Nat), (∀ p ∈ l, 0 ≤ p.hd ∧ p.hd < 64) → s < wmax → goodS l s < wmax
  | [], s, _, h => h
  | p :: l, s, hl, h => by
    rw [goodS]
    refine goodS_lt l _ (fun q hq => hl q (List.mem_cons_of_mem _ hq)) ?_
    split
    · exact w_or h (w_pow (by have := hl p (List.mem_cons_self ..); omega))
    · exact h
theorem up_le {F : Nat → Nat} {s : Nat} (h : ∀ k, s.testBit k = true → (F s).testBit k = true) : F s = s ∨ s < F s := by
  have h2 : s ≤ F s := by
    have e := or_same.2 h
    rw [← e]; exact Nat.left_le_or
  rcases Nat.eq_or_lt_of_le h2 with h3 | h3
  · exact .inl h3.symm
  · exact .inr h3
theorem w_fix {F : Nat → Nat} (hl : ∀ s, s < wmax → F s < wmax) (hu : ∀ s k, s.testBit k = true → (F s).testBit k = true) (x : Nat) (hx : x < wmax) : ∃ m, F (it F m x) = it F m x :=
  ⟨wmax, it_fix (fun s => s < wmax) (fun s => s) wmax hl (fun s _ => up_le (hu s)) (fun s h => Nat.le_of_lt h) wmax x hx (by omega)⟩
theorem w_start {F : Nat → Nat} (hu : ∀ s k, s.testBit k = true → (F s).testBit k = true) (m x k : Nat) (h : x.testBit k = true) : (it F m x).testBit k = true :=
  it_inv (F := F) (P := fun s => s.testBit k = true) (fun s hs => hu s k hs) m x h
theorem comeS_fix : ∀ (l : List Pr) (s : Nat), comeS l s = s → ∀ p ∈ l, (∀ x ∈ p.bd, 0 ≤ x) → s.testBit p.hd.toNat = true → ∀ x ∈ p.bd, s.testBit x.toNat = true
  | [], s, _, p, hp, _, _, _, _ => by simp at hp
  | q :: l, s, h, p, hp, hb, hs, x, hx => by
    rw [comeS] at h
    have hup : ∀ k, (if s.testBit q.hd.toNat = true then s ||| ofW q.bd 0 else s).testBit k = true → s.testBit k = true := fun k hk => by
      have := comeS_up l _ k hk
      rwa [h] at this
    rcases List.mem_cons.1 hp with rfl | hp
    · rw [if_pos hs] at hup
      refine hup _ ?_
      rw [Nat.testBit_or, Bool.or_eq_true]
      exact .inr ((ofW_test _ _ hb _).2 (.inr (by rw [Int.toNat_of_nonneg (hb x hx)]; exact hx)))
    · have e : (if s.testBit q.hd.toNat = true then s ||| ofW q.bd 0 else s) = s := by
        apply Nat.eq_of_testBit_eq
        intro k
        rw [Bool.eq_iff_iff]
        refine ⟨hup k, fun hk => ?_⟩
        split
        · exact or_up _ _ _ hk
        · exact hk
      rw [e] at h
      exact comeS_fix l s h p hp hb hs x hx
theorem goodS_fix : ∀ (l : List Pr) (s : Nat), goodS l s = s → ∀ p ∈ l, (∀ x ∈ p.bd, 0 ≤ x) → (∀ x ∈ p.bd, s.testBit x.toNat = true) → s.testBit p.hd.toNat = true
  | [], s, _, p, hp, _, _ => by simp at hp
  | q :: l, s, h, p, hp, hb, hs => by
    rw [goodS] at h
    have hup : ∀ k, (if ofW q.bd 0 ||| s = s then s ||| 2 ^ q.hd.toNat else s).testBit k = true → s.testBit k = true := fun k hk => by
      have := goodS_up l _ k hk
      rwa [h] at this
    rcases List.mem_cons.1 hp with rfl | hp
    · have hc : ofW p.bd 0 ||| s = s := or_same.2 fun k hk => by
        rcases (ofW_test _ _ hb k).1 hk with h1 | h1
        · simp at h1
        · have := hs _ h1; simpa using this
      rw [if_pos hc] at hup
      refine hup _ ?_
      rw [Nat.testBit_or, Nat.testBit_two_pow]; simp
    · have e : (if ofW q.bd 0 ||| s = s then s ||| 2 ^ q.hd.toNat else s) = s := by
        apply Nat.eq_of_testBit_eq
        intro k
        rw [Bool.eq_iff_iff]
        refine ⟨hup k, fun hk => ?_⟩
        split
        · exact or_up _ _ _ hk
        · exact hk
      rw [e] at h
      exact goodS_fix l s h p hp hb hs
theorem comeS_sound {g : Gr} (hg : NumOk g) : ∀ (l : List Pr) (s : Nat), (∀ p ∈ l, p ∈ g.ps) → (∀ k : Nat, s.testBit k = true → (k : Int) < g.t ∨ Come g k) → ∀ k : Nat, (comeS l s).testBit k = true → (k : Int) < g.t ∨ Come g k
  | [], s, _, h => h
  | p :: l, s, hl, h => by
    rw [comeS]
    have hp := hl p (List.mem_cons_self ..)
    refine comeS_sound hg l _ (fun q hq => hl q (List.mem_cons_of_mem _ hq)) fun k hk => ?_
    split at hk
    · rename_i hs
      rw [Nat.testBit_or, Bool.or_eq_true] at hk
      rcases hk with hk | hk
      · exact h k hk
      · rcases (ofW_test _ _ (fun x hx => (hg.bd p hp x hx).1) k).1 hk with h1 | h1
        · simp at h1
        · have h0 := hg.hd p hp
          have h2 := hg.t1
          have h3 := h _ hs
          rw [Int.toNat_of_nonneg (by omega)] at h3
          rcases h3 with h3 | h3
          · omega
          · exact .inr (.go hp h3 h1)
    · exact h k hk
theorem goodS_sound {g : Gr} (hg : NumOk g) : ∀ (l : List Pr) (s : Nat), (∀ p ∈ l, p ∈ g.ps) → (∀ k : Nat, s.testBit k = true → Good g k) → ∀ k : Nat, (goodS l s).testBit k = true → Good g k
  | [], s, _, h => h
  | p :: l, s, hl, h => by
    rw [goodS]
    have hp := hl p (List.mem_cons_self ..)
    refine goodS_sound hg l _ (fun q hq => hl q (List.mem_cons_of_mem _ hq)) fun k hk => ?_
    split at hk
    · rename_i hs
      rw [Nat.testBit_or, Bool.or_eq_true] at hk
      rcases hk with hk | hk
      · exact h k hk
      · rw [Nat.testBit_two_pow] at hk
        have h0 := hg.hd p hp
        have h2 := hg.t1
        have e : (k : Int) = p.hd := by simp at hk; omega
        rw [e]
        refine Good.go hp fun x hx => ?_
        have hx0 := hg.bd p hp x hx
        have := h x.toNat (or_same.1 hs _ ((ofW_test _ _ (fun x hx => (hg.bd p hp x hx).1) _).2 (.inr (by rw [Int.toNat_of_nonneg hx0.1]; exact hx))))
        rwa [Int.toNat_of_nonneg hx0.1] at this
    · exact h k hk
theorem come_sem {g : Gr} (hg : NumOk g) {m : Nat} (hm : comeS g.ps (it (comeS g.ps) m ((2 ^ g.t.toNat - 1) ||| 2 ^ g.st.toNat)) = it (comeS g.ps) m ((2 ^ g.t.toNat - 1) ||| 2 ^ g.st.toNat)) : it (comeS g.ps) m ((2 ^ g.t.toNat - 1) ||| 2 ^ g.st.toNat) = wd (fun k => (k : Int) < g.t ∨ Come g k) := by
  have h1 := hg.t1; have h2 := hg.t2; have h3 := hg.s1; have h4 := hg.s2; have h5 := hg.st1; have h6 := hg.st2
  have hx : (2 ^ g.t.toNat - 1) ||| 2 ^ g.st.toNat < wmax := w_or (by rw [wd_below (by omega)]; exact wd_lt _) (w_pow (by omega))
  have hb : ∀ p ∈ g.ps, ∀ x ∈ p.bd, 0 ≤ x ∧ x < 64 := fun p hp x hx => by have := hg.bd p hp x hx; omega
  have hstart : ∀ k : Nat, ((2 ^ g.t.toNat - 1) ||| 2 ^ g.st.toNat).testBit k = true ↔ (k : Int) < g.t ∨ (k : Int) = g.st := fun k => by
    rw [Nat.testBit_or, Nat.testBit_two_pow_sub_one, Nat.testBit_two_pow, Bool.or_eq_true]
    simp; omega
  refine wd_eq (it_inv (F := comeS g.ps) (P := fun s => s < wmax) (fun s hs => comeS_lt _ _ hb hs) m _ hx) fun k hk => ⟨?_, fun h => ?_⟩
  · refine it_inv (F := comeS g.ps) (P := fun s => ∀ k : Nat, s.testBit k = true → (k : Int) < g.t ∨ Come g k) (fun s hs => comeS_sound hg _ s (fun p hp => hp) hs) m _ (fun k hk => ?_) k
    rcases (hstart k).1 hk with h | h
    · exact .inl h
    · exact .inr (h ▸ .st)
  · have hin : ∀ k : Nat, (k : Int) < g.t ∨ (k : Int) = g.st → (it (comeS g.ps) m ((2 ^ g.t.toNat - 1) ||| 2 ^ g.st.toNat)).testBit k = true := fun k hk => w_start (fun s k => comeS_up _ s k) m _ k ((hstart k).2 hk)
    rcases h with h | h
    · exact hin k (.inl h)
    · have : ∀ x, Come g x → 0 ≤ x → (it (comeS g.ps) m ((2 ^ g.t.toNat - 1) ||| 2 ^ g.st.toNat)).testBit x.toNat = true := fun x hx => by
        induction hx with
        | st => exact fun h0 => hin _ (.inr (by omega))
        | go hp hc hx ih =>
          intro h0
          have := hg.hd _ hp
          exact comeS_fix _ _ hm _ hp (fun y hy => (hg.bd _ hp y hy).1) (ih (by omega)) _ hx
      have := this k h (by omega)
      simpa using this
theorem good_sem {g : Gr} (hg : NumOk g) {m : Nat} (hm : goodS g.ps (it (goodS g.ps) m (2 ^ g.t.toNat - 1)) = it (goodS g.ps) m (2 ^ g.t.toNat - 1)) : it (goodS g.ps) m (2 ^ g.t.toNat - 1) = wd (fun k => Good g k) := by
  have h1 := hg.t1; have h2 := hg.t2; have h3 := hg.s1; have h4 := hg.s2; have h5 := hg.st1; have h6 := hg.st2
  have hx : (2 ^ g.t.toNat - 1) < wmax := by rw [wd_below (by omega)]; exact wd_lt _
  have hb : ∀ p ∈ g.ps, 0 ≤ p.hd ∧ p.hd < 64 := fun p hp => by have := hg.hd p hp; omega
  have hstart : ∀ k : Nat, (2 ^ g.t.toNat - 1).testBit k = true ↔ (k : Int) < g.t := fun k => by
    rw [Nat.testBit_two_pow_sub_one]
    simp
  refine wd_eq (it_inv (F := goodS g.ps) (P := fun s => s < wmax) (fun s hs => goodS_lt _ _ hb hs) m _ hx) fun k hk => ⟨?_, fun h => ?_⟩
  · exact it_inv (F := goodS g.ps) (P := fun s => ∀ k : Nat, s.testBit k = true → Good g k) (fun s hs => goodS_sound hg _ s (fun p hp => hp) hs) m _ (fun k hk => .tm (by omega) ((hstart k).1 hk)) k
  · have : ∀ x, Good g x → (it (goodS g.ps) m (2 ^ g.t.toNat - 1)).testBit x.toNat = true := fun x hx => by
      induction hx with
      | tm h0 h1 => exact w_start (fun s k => goodS_up _ s k) m _ _ ((hstart _).2 (by omega))
      | go hp hc ih => exact goodS_fix _ _ hm _ hp (fun y hy => (hg.bd _ hp y hy).1) ih
    have := this k h
    simpa using this
end Go.Proofs.Ytpmkdpjcpimhkaa
