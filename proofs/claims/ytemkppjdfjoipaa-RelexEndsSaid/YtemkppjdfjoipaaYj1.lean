/- Package relex. -/
import Derived.Test.YtemkppjdfjoipaaProg
import Derived.Test.YtemkppjdfjoipaaW39
import Derived.Test.YtemkppjdfjoipaaW35
import Derived.Deep.SlicePairs
import Derived.Deep.Slices
import Derived.Laws.IdiomArrays
import Derived.OpenShut
import Derived.WideBlind
import Derived.Great.BuildSlice
import Derived.WalkKit
import Derived.Maps.OwnSet
import Derived.Maps.OwnOps
import Derived.Maps.Own
import Derived.DeepKeys5
import Derived.BigFrame
import Derived.WalkMore
import Derived.ScopeJumps
import Derived.StillTailTactics
import Derived.Stop.BytesEq
import Derived.WalkLawsBesides
import Derived.WalkSpells
import Derived.Outline
import Derived.Lib.Walk
import Derived.Lib.Hide
import Derived.Lib.Slices
import Derived.Lib.Strings
import Derived.RegionTactic
import Derived.LoopTactic
import Derived.Below
import Derived.IntWalk
import Derived.Deep.QuietTactic
import Derived.BigQuiet
import Derived.Deep.MidRow
import Derived.Maps.AppendAt
import Derived.Laws.Rows
import Derived.Laws.Tables
import Derived.Deep.WholeRow
import Derived.Deep.Cut
import Derived.Deep.CutRange
import Derived.Lib.SliceRun
import Derived.Laws.MakeOwn
import Derived.Deep.RegionLaw
import Derived.Deep.RegionLawGrows
import Derived.Deep.RegionHeld3
import Derived.RegionCalls
import Derived.Deep.RegionWith
import Derived.Deep.Light
import Derived.Laws.CopyOwn
import Derived.Laws.ResultCell
namespace Go.Proofs.Ytemkppjdfjoipaa.I1.X
set_option linter.unusedSimpArgs false
set_option linter.unusedVariables false
set_option maxRecDepth 100000
open Go.RowKit
/- Lists that are cut. -/
theorem map_add0 (p : Option Addr) : p.map (fun a => a.add 0) = p := by
  cases p with
  | none => rfl
  | some a => simp [Addr.add]
theorem run_to26 (p : Option Addr) (n c k : Nat) (hk : k ≤ n) (hn : n ≤ c) (w : World) : (Instr.slice 26 (.slice p n c) none (some (.int .i64 (k : Nat))) none).run Try.prog w = .ok (.slice p k c) w := by
  have hu : Try.prog.underlying 26 = some (.slice 40) := Try.underlying26
  have hi : (Try.prog.info? 40).map (·.size) = some 3 := by kernel_rfl
  obtain ⟨i, hi1, hi2⟩ := Option.map_eq_some_iff.1 hi
  have h1 : (0 : Int) ≤ (k : Int) ∧ (k : Int) ≤ (c : Int) := by omega
  have hkc : k ≤ c := by omega
  simp [Instr.slice, Instr.sliceBounds, Instr.sliceBound, run_underlying hu, Sem.run_bind, asIntOf, Result.andThen, sizeOf, typeInfo, hi1, hi2, h1, hk, hkc, map_add0]
theorem run_to22 (p : Option Addr) (n c k : Nat) (hk : k ≤ n) (hn : n ≤ c) (w : World) : (Instr.slice 22 (.slice p n c) none (some (.int .i64 (k : Nat))) none).run Try.prog w = .ok (.slice p k c) w := by
  have hu : Try.prog.underlying 22 = some (.slice 38) := Try.underlying22
  have hi : (Try.prog.info? 38).map (·.size) = some 3 := by kernel_rfl
  obtain ⟨i, hi1, hi2⟩ := Option.map_eq_some_iff.1 hi
  have h1 : (0 : Int) ≤ (k : Int) ∧ (k : Int) ≤ (c : Int) := by omega
  have hkc : k ≤ c := by omega
  simp [Instr.slice, Instr.sliceBounds, Instr.sliceBound, run_underlying hu, Sem.run_bind, asIntOf, Result.andThen, sizeOf, typeInfo, hi1, hi2, h1, hk, hkc, map_add0]
theorem wv_take {D : Nat → Prop} {w : World} {l : List Tr} {p : Option Addr} {n c k : Nat} (h : WV D w l (.slice p n c)) (hk : k ≤ n) : WV D w (l.take k) (.slice p k c) := by
  obtain ⟨p', c', he, hh⟩ := h
  injection he with e1 e2 e3
  subst e1 e2 e3
  refine ⟨p, c, by rw [List.length_take]; congr 1; omega, fun hn => ?_⟩
  obtain ⟨b, o, rfl, hD, hcl⟩ := hh (by intro e; rw [e] at hn; simp at hn)
  refine ⟨b, o, rfl, hD, fun i hi => ?_⟩
  rw [List.length_take] at hi
  rw [List.getElem_take]
  exact hcl i (by omega)
theorem wv_at {D : Nat → Prop} {w : World} {l : List Tr} {p : Option Addr} {n c k : Nat} (h : WV D w l (.slice p n c)) (hk : k < l.length) : ∃ b o, p = some ⟨b, o, none⟩ ∧ D b ∧ w.cell? ⟨b, o + k * 3, none⟩ = some (.int .i64 l[k].1) ∧ w.cell? ⟨b, o + k * 3 + 1, none⟩ = some (.int .i64 l[k].2.1) ∧ w.cell? ⟨b, o + k * 3 + 2, none⟩ = some (.int .i64 l[k].2.2) := by
  obtain ⟨p', c', he, hh⟩ := h
  injection he with e1 e2 e3
  subst e1 e2 e3
  obtain ⟨b, o, rfl, hD, hcl⟩ := hh (by intro e; subst e; simp at hk)
  exact ⟨b, o, rfl, hD, hcl k hk⟩
end Go.Proofs.Ytemkppjdfjoipaa.I1.X
