/- Package nfa. -/
import Derived.Test.YthglciccejholaaDoorProg
import Derived.Test.YthglciccejholaaDoorMa
import Derived.Test.YthglciccejholaaDoorY30
import Derived.Test.YthglciccejholaaDoorY42
import Derived.WalkKit
import Derived.WalkLawsBesides
import Derived.WalkSpells
import Derived.Outline
import Derived.Lib.Walk
import Derived.Lib.Hide
import Derived.Lib.Slices
import Derived.Lib.Strings
import Derived.RegionTactic
import Derived.LoopTactic
import Derived.Below
import Derived.IntWalk
import Derived.Deep.QuietTactic
import Derived.BigQuiet
import Derived.Deep.MidRow
import Derived.Maps.AppendAt
import Derived.Laws.Rows
import Derived.Laws.Tables
import Derived.Deep.WholeRow
import Derived.Deep.Cut
import Derived.Deep.CutRange
import Derived.Lib.SliceRun
import Derived.Laws.MakeOwn
import Derived.Deep.RegionLaw
import Derived.Deep.RegionLawGrows
import Derived.Deep.RegionHeld3
import Derived.RegionCalls
import Derived.Deep.RegionWith
import Derived.Deep.Light
namespace Go.Proofs.YthglciccejholaaDoor
set_option linter.unusedSimpArgs false
set_option linter.unusedVariables false
set_option maxRecDepth 100000
open Go.RowKit
/- matchesSome, whatever pattern it is of. -/
def MsOK (t : RT) : Prop := ∀ {D : Nat → Prop} {w : World} {v : Value}, (∀ b, D b → b < w.heap.size) → RV D w t v → Calls Tryd.prog 75 #[v] w fun e w' => e = .returned (.bool (msF t)) ∧ Below w.heap.size w w'
set_option maxHeartbeats 4000000 in
theorem none_any {t : RT} {D : Nat → Prop} {w : World} {v : Value} (h : MsOK t) (hD : ∀ b, D b → b < w.heap.size) (hv : RV D w t v) : Calls Tryd.prog 109 #[v] w fun e w' => e = .returned (.bool (!msF t)) ∧ Below w.heap.size w w' := by
  obtain ⟨k, u, p, n, c, rfl⟩ := hv.form
  have hb1 := (Below.refl w.heap.size w).alloc (Nat.le_refl _) (.cells (nodeC k u (.slice p n c)) 27)
  have HC := Lib.hid (h (w := w.alloc (.cells (nodeC k u (.slice p n c)) 27)) (fun b hb => Nat.lt_of_lt_of_le (hD b hb) hb1.size) (hv.mono (fun b h => h) (fun b hb _ => hb1.block b (hD b hb))))
  have HB := Lib.hid hb1
  obtain ⟨m, hm⟩ : ∃ m, msF t = m := ⟨_, rfl⟩
  rw [hm] at HC ⊢
  clear h hv hD hb1 hm
  unfold nodeC at *
  go_enter Tryd.func109, Tryd.ntmps109
  go_wp2_with fail
  refine HC.out.mono ?_
  rintro _ y1 ⟨rfl, hb1⟩
  have HB2 := Lib.hid (HB.out.trans (hb1.mono HB.out.size))
  clear hb1 HC HB
  go_wp2_with fail
  go_ret
  exact ⟨rfl, HB2.out⟩
set_option maxHeartbeats 4000000 in
theorem some_1 (u : Nat → Int) (p : Option Addr) (n c : Nat) (w : World) : Calls Tryd.prog 75 #[.agg (nodeC 1 u (.slice p n c))] w fun e w' => e = .returned (.bool true) ∧ Below w.heap.size w w' := by
  have S0 := Lib.hid (((Below.refl w.heap.size w).alloc (Nat.le_refl _) (.cells (nodeC 1 u (.slice p n c)) 27)))
  unfold nodeC at *
  go_enter Tryd.func75, Tryd.ntmps75
  go_wp2_with fail
  go_ret
  exact ⟨rfl, S0.out⟩
set_option maxHeartbeats 4000000 in
theorem some_7 (u : Nat → Int) (p : Option Addr) (n c : Nat) (w : World) : Calls Tryd.prog 75 #[.agg (nodeC 7 u (.slice p n c))] w fun e w' => e = .returned (.bool true) ∧ Below w.heap.size w w' := by
  have S0 := Lib.hid (((Below.refl w.heap.size w).alloc (Nat.le_refl _) (.cells (nodeC 7 u (.slice p n c)) 27)))
  unfold nodeC at *
  go_enter Tryd.func75, Tryd.ntmps75
  go_wp2_with fail
  go_ret
  exact ⟨rfl, S0.out⟩
set_option maxHeartbeats 4000000 in
theorem some_3 (R : Bool) (u : Nat → Int) (p : Option Addr) (n c : Nat) (w : World) (HC : Hid (∀ z, Below w.heap.size w z → Calls Tryd.prog 108 #[.slice p n c, .func (.func 109) #[] #[]] z fun e z' => e = .returned (.bool R) ∧ Below z.heap.size z z')) : Calls Tryd.prog 75 #[.agg (nodeC 3 u (.slice p n c))] w fun e w' => e = .returned (.bool (!R)) ∧ Below w.heap.size w w' := by
  have S0 := Lib.hid (((Below.refl w.heap.size w).alloc (Nat.le_refl _) (.cells (nodeC 3 u (.slice p n c)) 27)))
  unfold nodeC at *
  go_enter Tryd.func75, Tryd.ntmps75
  go_wp2_with fail
  refine (HC.out _ S0.out).mono ?_
  rintro _ y1 ⟨rfl, hb1⟩
  have HB2 := Lib.hid (S0.out.trans (hb1.mono S0.out.size))
  clear hb1 HC S0
  go_wp2_with fail
  go_ret
  exact ⟨rfl, HB2.out⟩
set_option maxHeartbeats 4000000 in
theorem some_6 (R : Bool) (u : Nat → Int) (p : Option Addr) (n c : Nat) (w : World) (HC : Hid (∀ z, Below w.heap.size w z → Calls Tryd.prog 108 #[.slice p n c, .func (.func 109) #[] #[]] z fun e z' => e = .returned (.bool R) ∧ Below z.heap.size z z')) : Calls Tryd.prog 75 #[.agg (nodeC 6 u (.slice p n c))] w fun e w' => e = .returned (.bool (!R)) ∧ Below w.heap.size w w' := by
  have S0 := Lib.hid (((Below.refl w.heap.size w).alloc (Nat.le_refl _) (.cells (nodeC 6 u (.slice p n c)) 27)))
  unfold nodeC at *
  go_enter Tryd.func75, Tryd.ntmps75
  go_wp2_with fail
  refine (HC.out _ S0.out).mono ?_
  rintro _ y1 ⟨rfl, hb1⟩
  have HB2 := Lib.hid (S0.out.trans (hb1.mono S0.out.size))
  clear hb1 HC S0
  go_wp2_with fail
  go_ret
  exact ⟨rfl, HB2.out⟩
set_option maxHeartbeats 4000000 in
theorem some_4 (R : Bool) (u : Nat → Int) (p : Option Addr) (n c : Nat) (w : World) (HC : Hid (∀ z, Below w.heap.size w z → Calls Tryd.prog 108 #[.slice p n c, .func (.func 75) #[] #[]] z fun e z' => e = .returned (.bool R) ∧ Below z.heap.size z z')) : Calls Tryd.prog 75 #[.agg (nodeC 4 u (.slice p n c))] w fun e w' => e = .returned (.bool R) ∧ Below w.heap.size w w' := by
  have S0 := Lib.hid (((Below.refl w.heap.size w).alloc (Nat.le_refl _) (.cells (nodeC 4 u (.slice p n c)) 27)))
  unfold nodeC at *
  go_enter Tryd.func75, Tryd.ntmps75
  go_wp2_with fail
  refine (HC.out _ S0.out).mono ?_
  rintro _ y1 ⟨rfl, hb1⟩
  have HB2 := Lib.hid (S0.out.trans (hb1.mono S0.out.size))
  clear hb1 HC S0
  go_wp2_with fail
  go_ret
  exact ⟨rfl, HB2.out⟩
theorem msome_any : ∀ (n : Nat) (t : RT), sz t ≤ n → n ≤ 1000000 → mayB t = true → MsOK t := by
  intro n
  induction n with
  | zero => intro t h; have := sz_pos t; omega
  | succ n ih =>
    intro t hsz hn hmay
    obtain ⟨k, u, ps⟩ := t
    intro D w v hD hv
    obtain ⟨p, c, rfl⟩ := rv_form' hv
    rw [sz] at hsz
    rw [mayB, Bool.and_eq_true, Bool.and_eq_true] at hmay
    have hf := hmay.1.1
    have IH : ∀ q ∈ ps, MsOK q := fun q hq => ih q (by have := sz_mem hq; omega) (by omega) (mayL_mem hmay.2 q hq)
    have hl := len_szL ps
    have H66 : ∀ z, Below w.heap.size w z → Calls Tryd.prog 108 #[.slice p ps.length c, .func (.func 109) #[] #[]] z fun e z' => e = .returned (.bool (ps.any fun q => !msF q)) ∧ Below z.heap.size z z' := fun z hz => contains_66 (D := D) (fun q => !msF q) (fun b h => Nat.lt_of_lt_of_le (hD b h) hz.size) (by omega) (hv.mono (fun b h => h) (fun b hb _ => hz.block b (hD b hb))) (Lib.hid fun q hq y v hy hvq => none_any (IH q hq) (fun b h => Nat.lt_of_lt_of_le (hD b h) (Nat.le_trans hz.size hy.size)) hvq)
    have H53 : ∀ z, Below w.heap.size w z → Calls Tryd.prog 108 #[.slice p ps.length c, .func (.func 75) #[] #[]] z fun e z' => e = .returned (.bool (ps.any msF)) ∧ Below z.heap.size z z' := fun z hz => contains_53 (D := D) msF (fun b h => Nat.lt_of_lt_of_le (hD b h) hz.size) (by omega) (hv.mono (fun b h => h) (fun b hb _ => hz.block b (hD b hb))) (Lib.hid fun q hq y v hy hvq => IH q hq (fun b h => Nat.lt_of_lt_of_le (hD b h) (Nat.le_trans hz.size hy.size)) hvq)
    have hall : (!(ps.any fun q => !msF q)) = msAll ps := by
      rw [msAll_eq, Bool.eq_iff_iff]; simp
    unfold fitsB at hf
    rw [msF]
    by_cases h0 : k = 0
    · subst h0
      rw [if_pos rfl]
      exact some_none u p ps.length c w
    rw [if_neg h0]
    by_cases h2 : k = 2
    · subst h2
      rw [if_pos rfl]
      exact some_set u p ps.length c w
    rw [if_neg h2]
    by_cases h3 : k = 3
    · subst h3
      rw [if_pos (.inl rfl), ← hall]
      exact some_3 _ u p ps.length c w (Lib.hid H66)
    by_cases h6 : k = 6
    · subst h6
      rw [if_pos (.inr rfl), ← hall]
      exact some_6 _ u p ps.length c w (Lib.hid H66)
    rw [if_neg (by rintro (h | h) <;> contradiction)]
    by_cases h4 : k = 4
    · subst h4
      rw [if_pos rfl, msAny_eq]
      exact some_4 _ u p ps.length c w (Lib.hid H53)
    rw [if_neg h4]
    by_cases h1 : k = 1
    · subst h1; exact some_1 u p ps.length c w
    by_cases h5 : k = 5
    · subst h5; exact some_star u p ps.length c w
    by_cases h7 : k = 7
    · subst h7; exact some_7 u p ps.length c w
    exfalso
    rw [if_neg (by rintro (h | h | h) <;> contradiction), if_neg (by rintro (h | h) <;> contradiction), if_neg (by rintro (h | h | h) <;> contradiction)] at hf
    cases hf
end Go.Proofs.YthglciccejholaaDoor
