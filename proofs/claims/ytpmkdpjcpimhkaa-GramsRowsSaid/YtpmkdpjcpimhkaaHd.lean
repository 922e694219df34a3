/- Package grams. -/
import Derived.Test.YtpmkdpjcpimhkaaProg
import Derived.Test.YtpmkdpjcpimhkaaHc
import Derived.Deep.SlicePairs
import Derived.Deep.Slices
import Derived.Laws.IdiomArrays
import Derived.OpenShut
import Derived.WideBlind
import Derived.Great.BuildSlice
import Derived.WalkKit
import Derived.Maps.OwnSet
import Derived.Maps.OwnOps
import Derived.Maps.Own
import Derived.DeepKeys5
import Derived.BigFrame
import Derived.WalkMore
import Derived.ScopeJumps
import Derived.StillTailTactics
import Derived.Stop.BytesEq
import Derived.WalkLawsBesides
import Derived.WalkSpells
import Derived.Outline
import Derived.Lib.Walk
import Derived.Lib.Hide
import Derived.Lib.Slices
import Derived.Lib.Strings
import Derived.RegionTactic
import Derived.LoopTactic
import Derived.Below
import Derived.IntWalk
import Derived.Deep.QuietTactic
import Derived.BigQuiet
import Derived.Deep.MidRow
import Derived.Maps.AppendAt
import Derived.Laws.Rows
import Derived.Laws.Tables
import Derived.Deep.WholeRow
import Derived.Deep.Cut
import Derived.Deep.CutRange
import Derived.Lib.SliceRun
import Derived.Laws.MakeOwn
import Derived.Deep.RegionLaw
import Derived.Deep.RegionLawGrows
import Derived.Deep.RegionHeld3
import Derived.RegionCalls
import Derived.Deep.RegionWith
import Derived.Deep.Light
import Derived.Laws.CopyOwn
import Derived.Laws.ResultCell
namespace Go.Proofs.Ytpmkdpjcpimhkaa
set_option linter.unusedSimpArgs false
set_option linter.unusedVariables false
set_option maxRecDepth 100000
open Go.RowKit
/- Closures over numbers and productions; slices.ContainsFunc. -/
def gC (g : Gr) (p : Option Addr) (c : Nat) : Array Value := #[.int .i64 g.t, .int .i64 g.s, .int .i64 g.st, .slice p g.ps.length c]
theorem gC_at {w : World} {b : Nat} {g : Gr} {p : Option Addr} {c : Nat} (h : w.heap[b]? = some (.cells (gC g p c) 24 (0, 0))) : w.cell? ⟨b, 0, none⟩ = some (.int .i64 g.t) ∧ w.cell? ⟨b, 1, none⟩ = some (.int .i64 g.s) ∧ w.cell? ⟨b, 2, none⟩ = some (.int .i64 g.st) ∧ w.cell? ⟨b, 3, none⟩ = some (.slice p g.ps.length c) :=
  ⟨(cell_of_row w b 0 _ 24 (0, 0) h).trans rfl, (cell_of_row w b 1 _ 24 (0, 0) h).trans rfl, (cell_of_row w b 2 _ 24 (0, 0) h).trans rfl, (cell_of_row w b 3 _ 24 (0, 0) h).trans rfl⟩
set_option maxHeartbeats 1000000 in
theorem clo56 {w : World} {b : Nat} {s x : Int} (h : w.cell? ⟨b, 1, none⟩ = some (.int .i64 s)) :
    Calls Try.prog 56 #[.int .i64 x, .pointer (some ⟨b, 0, none⟩)] w fun e w' => e = .returned (.bool (!(decide (0 ≤ x) && decide (x < s)))) ∧ w' = w := by
  have H1 := Lib.hid (isFrom_any x 0 s w)
  obtain ⟨v, hv⟩ : ∃ v, (decide (0 ≤ x) && decide (x < s)) = v := ⟨_, rfl⟩
  rw [hv] at H1 ⊢
  have hnot : ∀ (x : Bool) (w : World), (Op.unary .not (.bool x)).run Try.prog w = .ok (.bool (!x)) w := fun _ _ => rfl
  clear hv
  go_enter Try.func56, Try.ntmps56
  go_wp2_with fail
  refine H1.out.mono ?_
  rintro _ w1 ⟨rfl, rfl⟩
  go_wp2_with fail
  go_ret
  exact ⟨rfl, rfl⟩
theorem any_take {α : Type} (f : α → Bool) (l : List α) (j : Nat) (h : j < l.length) : (l.take (j + 1)).any f = ((l.take j).any f || f l[j]) := by
  rw [List.take_add_one, List.getElem?_eq_getElem h, List.any_append]; simp
theorem any_yes {α : Type} {f : α → Bool} {l : List α} {j : Nat} (h : j < l.length) (hp : f l[j] = true) : l.any f = true := List.any_eq_true.2 ⟨l[j], List.getElem_mem h, hp⟩
set_option maxHeartbeats 4000000 in
theorem index68 {D : Nat → Prop} {w : World} {l : List Int} {p : Option Addr} {c b : Nat} {s : Int} (hl : l.length ≤ 9223372036854775806) (h : IV D w l (.slice p l.length c)) (hs : w.cell? ⟨b, 1, none⟩ = some (.int .i64 s)) :
    Calls Try.prog 68 #[.slice p l.length c, .func (.func 56) #[] #[.pointer (some ⟨b, 0, none⟩)]] w fun e w' => ∃ r : Int, e = .returned (.int .i64 r) ∧ decide (0 ≤ r) = (l.any fun x => !(decide (0 ≤ x) && decide (x < s))) ∧ w' = w := by
  have HI := Lib.hid h
  have H1 := Lib.hid (fun x => clo56 (x := x) hs)
  clear h hs
  obtain ⟨f, hf⟩ : ∃ f : Int → Bool, (fun x => !(decide (0 ≤ x) && decide (x < s))) = f := ⟨_, rfl⟩
  have HF := Lib.hid hf
  rw [hf]
  clear hf
  go_enter Try.func68, Try.ntmps68
  go_wp2_with fail
  go_loopw [8] (fun i wr => ∃ j : Nat, i = .int .i64 (j : Nat) ∧ j ≤ l.length ∧ Hid ((l.take j).any f = false) ∧ Hid (wr = w)) (fun i _ => l.length - (intOf i).toNat)
  case atStart => exact ⟨0, rfl, by omega, Lib.hid (by simp), Lib.hid rfl⟩
  case round =>
  obtain ⟨j, rfl, hj, HA, HW⟩ := hrel
  obtain rfl := HW.out
  clear HW
  by_cases hlt : j < l.length
  · have hltI : (j : Int) < (l.length : Int) := by omega
    have hjI : ¬ (j : Int) < 0 := by omega
    obtain ⟨p', c', he, hh⟩ := HI.out
    injection he with e1 e2 e3
    subst e1 e3
    obtain ⟨bb, o, rfl, hDb, hx⟩ := hh (by intro e; rw [e] at hlt; simp at hlt)
    have cx := hx j hlt
    have hst := any_take f l j hlt
    have hyes := any_yes (f := f) hlt
    rw [HA.out, Bool.false_or] at hst
    obtain ⟨x, hxx⟩ : ∃ x, l[j] = x := ⟨_, rfl⟩
    rw [hxx] at cx hst hyes
    have H2 := Lib.hid (H1.out x)
    have hfx : (!(decide (0 ≤ x) && decide (x < s))) = f x := congrFun HF.out x
    rw [hfx] at H2
    generalize f x = v at H2 hst hyes
    have HST := Lib.hid hst
    have HY := Lib.hid hyes
    clear hh hx hDb e2 hxx hst hyes hfx
    go_wp2_with fail
    refine H2.out.mono ?_
    rintro _ w1 ⟨rfl, rfl⟩
    cases v with
    | true =>
      have h0 : (0 : Int) ≤ (j : Int) := by omega
      go_wp2_with fail
      go_ret
      exact ⟨_, rfl, by rw [decide_eq_true h0, HY.out (by trivial)], rfl⟩
    | false =>
      go_wp2_with fail
      go_roundw
      case rel => exact ⟨j + 1, by go_num, by omega, HST, Lib.hid trivial⟩
      case measure => simp [intOf]; omega
  · obtain rfl : j = l.length := by omega
    have hltI : ¬ (l.length : Int) < (l.length : Int) := by omega
    have hR := HA.out
    rw [List.take_length] at hR
    have HR := Lib.hid hR
    clear hR hlt
    go_wp2_with fail
    go_ret
    exact ⟨-1, rfl, by rw [HR.out]; rfl, rfl⟩
set_option maxHeartbeats 1000000 in
theorem contains55 {D : Nat → Prop} {w : World} {l : List Int} {p : Option Addr} {c b : Nat} {s : Int} (hl : l.length ≤ 9223372036854775806) (h : IV D w l (.slice p l.length c)) (hs : w.cell? ⟨b, 1, none⟩ = some (.int .i64 s)) :
    Calls Try.prog 55 #[.slice p l.length c, .func (.func 56) #[] #[.pointer (some ⟨b, 0, none⟩)]] w fun e w' => e = .returned (.bool (l.any fun x => !(decide (0 ≤ x) && decide (x < s)))) ∧ w' = w := by
  have H1 := Lib.hid (index68 hl h hs)
  generalize (l.any fun x => !(decide (0 ≤ x) && decide (x < s))) = R at H1 ⊢
  generalize l.length = n at H1 ⊢
  clear h hs hl
  go_enter Try.func55, Try.ntmps55
  go_wp2_with fail
  refine H1.out.mono ?_
  rintro _ w1 ⟨r, rfl, hr, rfl⟩
  have HR := Lib.hid hr
  clear hr
  by_cases h : 0 ≤ r
  · go_wp2_with fail
    go_ret
    exact ⟨vbool6 (by rw [← HR.out, decide_eq_true (by omega)]), rfl⟩
  · go_wp2_with fail
    go_ret
    exact ⟨vbool6 (by rw [← HR.out, decide_eq_false (by omega)]), rfl⟩
end Go.Proofs.Ytpmkdpjcpimhkaa
