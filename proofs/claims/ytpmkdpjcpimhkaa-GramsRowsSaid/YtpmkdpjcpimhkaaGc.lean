/- Package grams. -/
import Derived.Test.YtpmkdpjcpimhkaaGb
import Derived.Deep.SlicePairs
import Derived.Deep.Slices
import Derived.Laws.IdiomArrays
import Derived.OpenShut
import Derived.WideBlind
import Derived.Great.BuildSlice
import Derived.WalkKit
import Derived.Maps.OwnSet
import Derived.Maps.OwnOps
import Derived.Maps.Own
import Derived.DeepKeys5
import Derived.BigFrame
import Derived.WalkMore
import Derived.ScopeJumps
import Derived.StillTailTactics
import Derived.Stop.BytesEq
import Derived.WalkLawsBesides
import Derived.WalkSpells
import Derived.Outline
import Derived.Lib.Walk
import Derived.Lib.Hide
import Derived.Lib.Slices
import Derived.Lib.Strings
import Derived.RegionTactic
import Derived.LoopTactic
import Derived.Below
import Derived.IntWalk
import Derived.Deep.QuietTactic
import Derived.BigQuiet
import Derived.Deep.MidRow
import Derived.Maps.AppendAt
import Derived.Laws.Rows
import Derived.Laws.Tables
import Derived.Deep.WholeRow
import Derived.Deep.Cut
import Derived.Deep.CutRange
import Derived.Lib.SliceRun
import Derived.Laws.MakeOwn
import Derived.Deep.RegionLaw
import Derived.Deep.RegionLawGrows
import Derived.Deep.RegionHeld3
import Derived.RegionCalls
import Derived.Deep.RegionWith
import Derived.Deep.Light
import Derived.Laws.CopyOwn
import Derived.Laws.ResultCell
namespace Go.Proofs.Ytpmkdpjcpimhkaa
set_option linter.unusedSimpArgs false
set_option linter.unusedVariables false
set_option maxRecDepth 100000
open Go.RowKit
/- Tables of words: what ways lead to. -/
theorem getD_setN (T : List Nat) (k j v : Nat) : (T.set k v).getD j 0 = if k = j ∧ j < T.length then v else T.getD j 0 := by
  simp only [List.getD_eq_getElem?_getD, List.getElem?_set]
  by_cases h : k = j
  · subst h
    by_cases h2 : k < T.length
    · simp [h2]
    · simp [h2]
  · simp [h]
def up1 (T : List Nat) (k w : Nat) : List Nat := T.set k (T.getD k 0 ||| w)
theorem up1_len (T : List Nat) (k w : Nat) : (up1 T k w).length = T.length := by simp [up1]
theorem up1_bit (T : List Nat) (k w s x : Nat) (h : k < T.length) : ((up1 T k w).getD s 0).testBit x = true ↔ (T.getD s 0).testBit x = true ∨ (s = k ∧ w.testBit x = true) := by
  unfold up1
  rw [getD_setN]
  by_cases e : k = s
  · subst e
    rw [if_pos ⟨rfl, h⟩, Nat.testBit_or, Bool.or_eq_true]; simp
  · rw [if_neg (fun h => e h.1)]
    exact ⟨fun h => .inl h, fun h => h.elim id fun h => absurd h.1.symm e⟩
structure TbOk (T : List Nat) : Prop where
  ln : T.length = 64
  lt : ∀ s, T.getD s 0 < wmax
theorem up1_ok {T : List Nat} (h : TbOk T) {k w : Nat} (hw : w < wmax) : TbOk (up1 T k w) := by
  refine ⟨(up1_len T k w).trans h.ln, fun s => ?_⟩
  unfold up1
  rw [getD_setN]
  split
  · exact w_or (h.lt k) hw
  · exact h.lt s
theorem led1_up1 (T : List Nat) (w : Way) : led1 T w = up1 T w.2.toNat (T.getD w.1.toNat 0) := rfl
theorem ledS_len : ∀ (ws : List Way) (T : List Nat), (ledS ws T).length = T.length
  | [], T => rfl
  | w :: ws, T => (ledS_len ws (led1 T w)).trans (up1_len T _ _)
theorem ledS_ok : ∀ (ws : List Way) (T : List Nat), TbOk T → TbOk (ledS ws T)
  | [], T, h => h
  | w :: ws, T, h => by
    have e : ledS (w :: ws) T = ledS ws (led1 T w) := rfl
    rw [e]
    exact ledS_ok ws _ (up1_ok h (h.lt _))
theorem sum_set : ∀ (T : List Nat) (k v : Nat), k < T.length → (T.set k v).sum + T.getD k 0 = T.sum + v
  | [], k, v, h => by simp at h
  | a :: T, 0, v, h => by simp; omega
  | a :: T, k + 1, v, h => by
    have := sum_set T k v (by simpa using h)
    simp only [List.set_cons_succ, List.sum_cons, List.getD_cons_succ]; omega
theorem up1_cases (T : List Nat) (k w : Nat) (h : k < T.length) : up1 T k w = T ∨ T.sum < (up1 T k w).sum := by
  have h1 := sum_set T k (T.getD k 0 ||| w) h
  have h2 : T.getD k 0 ≤ T.getD k 0 ||| w := Nat.left_le_or
  rcases Nat.eq_or_lt_of_le h2 with e | e
  · left
    unfold up1
    rw [← e]
    apply List.ext_getElem?
    intro j
    rw [List.getElem?_set]
    by_cases e2 : k = j
    · subst e2
      rw [if_pos rfl, if_pos h, List.getElem?_eq_getElem h]
      simp [List.getD_eq_getElem?_getD, List.getElem?_eq_getElem h]
    · rw [if_neg e2]
  · right
    unfold up1
    omega
def WsOk (ws : List Way) : Prop := ∀ w ∈ ws, 0 ≤ w.1 ∧ w.1 < 64 ∧ 0 ≤ w.2 ∧ w.2 < 64
theorem ledS_cases : ∀ (ws : List Way) (T : List Nat), WsOk ws → T.length = 64 → ledS ws T = T ∨ T.sum < (ledS ws T).sum
  | [], T, _, _ => .inl rfl
  | w :: ws, T, hw, h => by
    have e : ledS (w :: ws) T = ledS ws (led1 T w) := rfl
    rw [e]
    have h0 := hw w (List.mem_cons_self ..)
    have h1 := up1_cases T w.2.toNat (T.getD w.1.toNat 0) (by omega)
    rw [← led1_up1] at h1
    have h2 := ledS_cases ws (led1 T w) (fun x hx => hw x (List.mem_cons_of_mem _ hx)) ((up1_len T _ _).trans h)
    rcases h2 with h2 | h2
    · rw [h2]; exact h1
    · rcases h1 with h1 | h1
      · rw [h1] at h2 ⊢; exact .inr h2
      · right; omega
theorem sum_le : ∀ (T : List Nat) (b : Nat), (∀ s, T.getD s 0 ≤ b) → T.sum ≤ T.length * b
  | [], b, _ => by simp
  | a :: T, b, h => by
    have h0 := h 0
    have h1 := sum_le T b (fun s => by have := h (s + 1); simpa using this)
    simp only [List.getD_cons_zero] at h0
    simp only [List.sum_cons, List.length_cons, Nat.succ_mul]; omega
theorem led_fix {ws : List Way} (hw : WsOk ws) (T : List Nat) (h : TbOk T) : ∃ m, ledS ws (it (ledS ws) m T) = it (ledS ws) m T :=
  ⟨64 * wmax, it_fix TbOk List.sum (64 * wmax) (fun T h => ledS_ok ws T h) (fun T h => ledS_cases ws T hw h.ln) (fun T h => by have := sum_le T wmax (fun s => Nat.le_of_lt (h.lt s)); rw [h.ln] at this; exact this) _ T h (by omega)⟩
inductive Lead (ws : List Way) (T0 : List Nat) : Nat → Nat → Prop
  | base {s x : Nat} : (T0.getD s 0).testBit x = true → Lead ws T0 s x
  | go {w : Way} {x : Nat} : w ∈ ws → Lead ws T0 w.1.toNat x → Lead ws T0 w.2.toNat x
theorem ledS_up : ∀ (ws : List Way) (T : List Nat), WsOk ws → T.length = 64 → ∀ s x, (T.getD s 0).testBit x = true → ((ledS ws T).getD s 0).testBit x = true
  | [], T, _, _, s, x, h => h
  | w :: ws, T, hw, hl, s, x, h => by
    have e : ledS (w :: ws) T = ledS ws (led1 T w) := rfl
    rw [e]
    have h0 := hw w (List.mem_cons_self ..)
    refine ledS_up ws _ (fun x hx => hw x (List.mem_cons_of_mem _ hx)) ((up1_len T _ _).trans hl) s x ?_
    rw [up1_bit _ _ _ _ _ (by omega)]
    exact .inl h
theorem ledS_sound {all : List Way} {T0 : List Nat} (hall : WsOk all) : ∀ (ws : List Way) (T : List Nat), (∀ w ∈ ws, w ∈ all) → T.length = 64 → (∀ s x, (T.getD s 0).testBit x = true → Lead all T0 s x) → ∀ s x, ((ledS ws T).getD s 0).testBit x = true → Lead all T0 s x
  | [], T, _, _, h => h
  | w :: ws, T, hs, hl, h => by
    have e : ledS (w :: ws) T = ledS ws (led1 T w) := rfl
    rw [e]
    have hm := hs w (List.mem_cons_self ..)
    have h0 := hall w hm
    refine ledS_sound hall ws _ (fun x hx => hs x (List.mem_cons_of_mem _ hx)) ((up1_len T _ _).trans hl) fun s x hx => ?_
    rw [led1_up1, up1_bit _ _ _ _ _ (by omega)] at hx
    rcases hx with hx | ⟨rfl, hx⟩
    · exact h s x hx
    · exact .go hm (h _ _ hx)
theorem ledS_fix : ∀ (ws : List Way) (T : List Nat), WsOk ws → T.length = 64 → ledS ws T = T → ∀ w ∈ ws, ∀ x, (T.getD w.1.toNat 0).testBit x = true → (T.getD w.2.toNat 0).testBit x = true
  | [], T, _, _, _, w, hw, _, _ => by simp at hw
  | v :: ws, T, hall, hl, h, w, hw, x, hx => by
    have e : ledS (v :: ws) T = ledS ws (led1 T v) := rfl
    rw [e] at h
    have h0 := hall v (List.mem_cons_self ..)
    have h2 : led1 T v = T := by
      have h1 := up1_cases T v.2.toNat (T.getD v.1.toNat 0) (by omega)
      rw [← led1_up1] at h1
      rcases h1 with h1 | h1
      · exact h1
      · rcases ledS_cases ws (led1 T v) (fun x hx => hall x (List.mem_cons_of_mem _ hx)) ((up1_len T _ _).trans hl) with h3 | h3
        · rw [← h3, h]
        · rw [h] at h3; omega
    rcases List.mem_cons.1 hw with rfl | hw
    · rw [← h2, led1_up1, up1_bit _ _ _ _ _ (by omega)]
      exact .inr ⟨rfl, hx⟩
    · rw [h2] at h
      exact ledS_fix ws T (fun x hx => hall x (List.mem_cons_of_mem _ hx)) hl h w hw x hx
theorem getD_rng (f : Nat → Nat) {n s : Nat} (h : s < n) : ((List.range n).map f).getD s 0 = f s := by simp [List.getD_eq_getElem?_getD, h]
noncomputable def tbW (P : Nat → Nat → Prop) : List Nat := (List.range 64).map fun s => wd (P s)
theorem tbW_len (P : Nat → Nat → Prop) : (tbW P).length = 64 := by unfold tbW; rw [List.length_map, List.length_range]
theorem tbW_get (P : Nat → Nat → Prop) {s : Nat} (h : s < 64) : (tbW P).getD s 0 = wd (P s) := getD_rng (fun s => wd (P s)) h
theorem tbW_ok (P : Nat → Nat → Prop) : TbOk (tbW P) := ⟨tbW_len P, fun s => by
  by_cases h : s < 64
  · rw [tbW_get P h]; exact wd_lt _
  · rw [List.getD_eq_getElem?_getD, List.getElem?_eq_none (by rw [tbW_len]; omega)]; decide⟩
theorem tbW_eq {T : List Nat} {P : Nat → Nat → Prop} (h : TbOk T) (hb : ∀ s x, s < 64 → x < 64 → ((T.getD s 0).testBit x = true ↔ P s x)) : T = tbW P := by
  apply List.ext_getElem?
  intro s
  by_cases hs : s < 64
  · have e : T.getD s 0 = (tbW P).getD s 0 := by
      rw [tbW_get P hs]
      exact wd_eq (h.lt s) fun k hk => hb s k hs hk
    have h1 : s < T.length := by rw [h.ln]; exact hs
    have h2 : s < (tbW P).length := by rw [tbW_len]; exact hs
    rw [List.getD_eq_getElem?_getD, List.getD_eq_getElem?_getD, List.getElem?_eq_getElem h1, List.getElem?_eq_getElem h2] at e
    rw [List.getElem?_eq_getElem h1, List.getElem?_eq_getElem h2]
    exact congrArg some e
  · rw [List.getElem?_eq_none (by rw [h.ln]; omega), List.getElem?_eq_none (by rw [tbW_len]; omega)]
theorem tbW_congr {P Q : Nat → Nat → Prop} (h : ∀ s x, s < 64 → x < 64 → (P s x ↔ Q s x)) : tbW P = tbW Q := tbW_eq (tbW_ok P) fun s x hs hx => by
  rw [tbW_get P hs, wd_test, ← h s x hs hx]; exact ⟨fun h => h.2, fun h => ⟨hx, h⟩⟩
theorem led_sem {ws : List Way} (hw : WsOk ws) {T0 : List Nat} (h0 : TbOk T0) {m : Nat} (hm : ledS ws (it (ledS ws) m T0) = it (ledS ws) m T0) : it (ledS ws) m T0 = tbW (Lead ws T0) := by
  have hok : TbOk (it (ledS ws) m T0) := it_inv (F := ledS ws) (P := TbOk) (fun T h => ledS_ok ws T h) m T0 h0
  refine tbW_eq hok fun s x hs hx => ⟨?_, fun h => ?_⟩
  · exact (it_inv (F := ledS ws) (P := fun T => T.length = 64 ∧ ∀ s x, (T.getD s 0).testBit x = true → Lead ws T0 s x) (fun T h => ⟨(ledS_len ws T).trans h.1, ledS_sound hw ws T (fun w h => h) h.1 h.2⟩) m T0 ⟨h0.ln, fun s x h => .base h⟩).2 s x
  · clear hs hx
    induction h with
    | base hb => exact (it_inv (F := ledS ws) (P := fun T => T.length = 64 ∧ (T.getD _ 0).testBit _ = true) (fun T h => ⟨(ledS_len ws T).trans h.1, ledS_up ws T hw h.1 _ _ h.2⟩) m T0 ⟨h0.ln, hb⟩).2
    | go hp hx ih => exact ledS_fix ws _ hw hok.ln hm _ hp _ ih
end Go.Proofs.Ytpmkdpjcpimhkaa
