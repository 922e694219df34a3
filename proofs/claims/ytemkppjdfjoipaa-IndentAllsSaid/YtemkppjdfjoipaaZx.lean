/- Package relex. -/
import Derived.Test.YtemkppjdfjoipaaProg
import Derived.Test.YtemkppjdfjoipaaZc
import Derived.Deep.SlicePairs
import Derived.Deep.Slices
import Derived.Laws.IdiomArrays
import Derived.OpenShut
import Derived.WideBlind
import Derived.Great.BuildSlice
import Derived.WalkKit
import Derived.Maps.OwnSet
import Derived.Maps.OwnOps
import Derived.Maps.Own
import Derived.DeepKeys5
import Derived.BigFrame
import Derived.WalkMore
import Derived.ScopeJumps
import Derived.StillTailTactics
import Derived.Stop.BytesEq
import Derived.WalkLawsBesides
import Derived.WalkSpells
import Derived.Outline
import Derived.Lib.Walk
import Derived.Lib.Hide
import Derived.Lib.Slices
import Derived.Lib.Strings
import Derived.RegionTactic
import Derived.LoopTactic
import Derived.Below
import Derived.IntWalk
import Derived.Deep.QuietTactic
import Derived.BigQuiet
import Derived.Deep.MidRow
import Derived.Maps.AppendAt
import Derived.Laws.Rows
import Derived.Laws.Tables
import Derived.Deep.WholeRow
import Derived.Deep.Cut
import Derived.Deep.CutRange
import Derived.Lib.SliceRun
import Derived.Laws.MakeOwn
import Derived.Deep.RegionLaw
import Derived.Deep.RegionLawGrows
import Derived.Deep.RegionHeld3
import Derived.RegionCalls
import Derived.Deep.RegionWith
import Derived.Deep.Light
import Derived.Laws.CopyOwn
import Derived.Laws.ResultCell
namespace Go.Proofs.Ytemkppjdfjoipaa.I1.X
set_option linter.unusedSimpArgs false
set_option linter.unusedVariables false
set_option maxRecDepth 100000
open Go.RowKit
/- Pieces that were handed in. -/
theorem cells3 : Try.prog.cellsOf 3 = 1 := by kernel_rfl
theorem cells38 : Try.prog.cellsOf 38 = 3 := by kernel_rfl
theorem bytes38 : Try.prog.bytesOf 38 = 24 := by kernel_rfl
open Go.ChangeShapes Go.WideShapes Go.Deep in
theorem raw_open {H : Type} {enc : TypeId × Value → H} {w : World} {held : Bool} {fuel : Nat} {cs : List Value} {x : DataW H × List MemPlace} (h : DataW.trod enc Try.prog w 0 (fun _ => true) held fuel 38 cs = some x) :
    ∃ a b c : Int, cs = [.int .i64 a, .int .i64 b, .int .i64 c] := by
  obtain ⟨xs, n, rfl, hx, hlen', hxl, hf⟩ := DataW.trod_struct Try.underlying38 h
  rw [cells38] at hlen'
  have hxl3 : xs.length = 3 := hxl
  have f0 := hf 0 _ rfl
  have f1 := hf 1 _ rfl
  have f2 := hf 2 _ rfl
  match xs, hxl3, cs, hlen' with
  | [y0, y1, y2], _, [c0, c1, c2], _ =>
    have g0 : DataW.trod enc Try.prog w 0 (fun _ => true) held n 3 (([c0, c1, c2].drop 0).take (Try.prog.cellsOf 3)) = some y0 := f0
    have g1 : DataW.trod enc Try.prog w 0 (fun _ => true) held n 3 (([c0, c1, c2].drop 1).take (Try.prog.cellsOf 3)) = some y1 := f1
    have g2 : DataW.trod enc Try.prog w 0 (fun _ => true) held n 3 (([c0, c1, c2].drop 2).take (Try.prog.cellsOf 3)) = some y2 := f2
    rw [cells3] at g0 g1 g2
    obtain ⟨a, e0, -, -⟩ := DataW.trod_int Try.underlying3 g0
    obtain ⟨b, e1, -, -⟩ := DataW.trod_int Try.underlying3 g1
    obtain ⟨c, e2, -, -⟩ := DataW.trod_int Try.underlying3 g2
    refine ⟨a, b, c, ?_⟩
    simp at e0 e1 e2
    rw [e0, e1, e2]
open Go.ChangeShapes Go.WideShapes Go.Deep in
theorem raws_open {H : Type} {enc : TypeId × Value → H} {w : World} {held : Bool} {fuel : Nat} {c : Value} {x : DataW H × List MemPlace} (h : DataW.trod enc Try.prog w 0 (fun _ => true) held fuel 22 [c] = some x) (hw : ∀ q ∈ x.1.weights Try.prog 22, q ≤ reachBytes) :
    ∃ (l : List Rw) (p : Option Addr) (f : Nat), c = .slice p l.length f ∧ RW (fun b => b < w.heap.size) w l c ∧ l.length ≤ 9223372036854775806 := by
  rcases DataW.trod_slice Try.underlying22 h with ⟨e5, -⟩ | ⟨a, len, cap, elems, rest, n', rfl, e5, hy2, hb, hl, hm', hlen, hel, -, -⟩
  · obtain rfl : c = .slice none 0 0 := by simpa using e5
    exact ⟨[], none, 0, rfl, ⟨none, 0, rfl, fun _ => ⟨rfl, rfl⟩, fun h => absurd rfl h⟩, by simp⟩
  · obtain rfl : c = .slice (some a) len cap := by simpa using e5
    have hw3 : (elems.length + rest.length) * 24 ≤ reachBytes := by
      rw [hy2] at hw
      unfold DataW.weights at hw
      rw [Try.underlying22] at hw
      simp only [List.length_map, bytes38] at hw
      exact hw _ (List.mem_cons_self ..)
    have hlb : len ≤ 9223372036854775806 := by
      have := reachBytes_lt
      omega
    have each : ∀ i, i < len → ∃ v : Rw, w.cell? ((a.add (i * 3)).add 0) = some (.int .i64 v.1) ∧ w.cell? ((a.add (i * 3)).add 1) = some (.int .i64 v.2.1) ∧ w.cell? ((a.add (i * 3)).add 2) = some (.int .i64 v.2.2) := fun i hi => by
      have h1 := hel i hi
      rw [List.getElem?_eq_getElem (by omega), cells38] at h1
      obtain ⟨cs', h2, h3⟩ := Option.bind_eq_some_iff.1 h1
      obtain ⟨_, hcl, hcell⟩ := World.cells?_some h2
      obtain ⟨v0, v1, v2, rfl⟩ := raw_open h3
      exact ⟨(v0, v1, v2), by rw [hcell 0 (by simp)]; rfl, by rw [hcell 1 (by simp)]; rfl, by rw [hcell 2 (by simp)]; rfl⟩
    by_cases h0 : len = 0
    · subst h0
      exact ⟨[], some a, cap, rfl, ⟨some a, cap, rfl, (fun h => by cases h), fun h => absurd rfl h⟩, by simp⟩
    · obtain ⟨q, hq⟩ := choose_lt each
      have hc0 := (hq 0 (by omega)).1
      have hspot : a.spot = none := by
        have := World.cell?_spot hc0
        simpa [Addr.add] using this
      obtain ⟨b, o, sp⟩ := a
      simp only at hspot
      subst hspot
      have hbl := World.block_lt_of_cell? w _ hc0
      have hbl2 : b < w.heap.size := by simpa [Addr.add] using hbl
      have hpl : ((List.range len).map q).length = len := by simp
      refine ⟨(List.range len).map q, some ⟨b, o, none⟩, cap, by rw [hpl], ⟨some ⟨b, o, none⟩, cap, by rw [hpl], (fun h => by cases h), fun _ => ⟨b, o, rfl, hbl2, fun j u hu => ?_⟩⟩, by omega⟩
      have hj : j < len * 3 := by
        have := (List.getElem?_eq_some_iff.1 hu).1
        rw [rwL_len, hpl] at this; exact this
      have hi' : j / 3 < len := by omega
      obtain ⟨g0, g1, g2⟩ := rwL_get ((List.range len).map q) (j / 3) (by rw [hpl]; exact hi')
      have e : ((List.range len).map q)[j / 3]'(by rw [hpl]; exact hi') = q (j / 3) := by simp
      rw [e] at g0 g1 g2
      obtain ⟨c0, c1, c2⟩ := hq _ hi'
      rw [add_add, add_plain] at c0 c1 c2
      rcases (by omega : j = j / 3 * 3 ∨ j = j / 3 * 3 + 1 ∨ j = j / 3 * 3 + 2) with h | h | h
      · rw [h] at hu ⊢; rw [g0] at hu; cases hu; exact c0
      · rw [h] at hu ⊢; rw [g1] at hu; cases hu; exact c1
      · rw [h] at hu ⊢; rw [g2] at hu; cases hu; exact c2
open Go.ChangeShapes Go.WideShapes in
theorem open_raws {H : Type} {enc : TypeId × Value → H} {w : World} {held : Bool} {v : Value} {d : DataW H} {p : List MemPlace} (hs : v.cells.toList = [v]) (h : DataW.Trod enc Try.prog w 0 (fun _ => true) held 22 v d p) (hw : ∀ n ∈ d.weights Try.prog 22, n ≤ reachBytes) :
    ∃ (l : List Rw) (p : Option Addr) (f : Nat), v = .slice p l.length f ∧ RW (fun b => b < w.heap.size) w l v ∧ l.length ≤ 9223372036854775806 := by
  obtain ⟨fuel, hf⟩ := h
  rw [hs] at hf
  exact raws_open hf hw
end Go.Proofs.Ytemkppjdfjoipaa.I1.X
