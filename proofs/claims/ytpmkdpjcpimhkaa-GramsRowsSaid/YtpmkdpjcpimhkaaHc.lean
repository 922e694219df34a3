/- Package grams. -/
import Derived.Test.YtpmkdpjcpimhkaaProg
import Derived.Test.YtpmkdpjcpimhkaaHb
import Derived.Deep.SlicePairs
import Derived.Deep.Slices
import Derived.Laws.IdiomArrays
import Derived.OpenShut
import Derived.WideBlind
import Derived.Great.BuildSlice
import Derived.WalkKit
import Derived.Maps.OwnSet
import Derived.Maps.OwnOps
import Derived.Maps.Own
import Derived.DeepKeys5
import Derived.BigFrame
import Derived.WalkMore
import Derived.ScopeJumps
import Derived.StillTailTactics
import Derived.Stop.BytesEq
import Derived.WalkLawsBesides
import Derived.WalkSpells
import Derived.Outline
import Derived.Lib.Walk
import Derived.Lib.Hide
import Derived.Lib.Slices
import Derived.Lib.Strings
import Derived.RegionTactic
import Derived.LoopTactic
import Derived.Below
import Derived.IntWalk
import Derived.Deep.QuietTactic
import Derived.BigQuiet
import Derived.Deep.MidRow
import Derived.Maps.AppendAt
import Derived.Laws.Rows
import Derived.Laws.Tables
import Derived.Deep.WholeRow
import Derived.Deep.Cut
import Derived.Deep.CutRange
import Derived.Lib.SliceRun
import Derived.Laws.MakeOwn
import Derived.Deep.RegionLaw
import Derived.Deep.RegionLawGrows
import Derived.Deep.RegionHeld3
import Derived.RegionCalls
import Derived.Deep.RegionWith
import Derived.Deep.Light
import Derived.Laws.CopyOwn
import Derived.Laws.ResultCell
namespace Go.Proofs.Ytpmkdpjcpimhkaa
set_option linter.unusedSimpArgs false
set_option linter.unusedVariables false
set_option maxRecDepth 100000
open Go.RowKit
/- A grammar in memory; slices.Equal. -/
def PV (D : Nat → Prop) (w : World) (ps : List Pr) (p : Option Addr) : Prop := ps ≠ [] → ∃ b o, p = some ⟨b, o, none⟩ ∧ D b ∧ ∀ i (h : i < ps.length), ∃ q c,
  w.cell? ⟨b, o + i * 3, none⟩ = some (.int .i64 ps[i].hd) ∧ w.cell? ⟨b, o + i * 3 + 1, none⟩ = some (.slice q ps[i].bd.length c) ∧ w.cell? ⟨b, o + i * 3 + 2, none⟩ = some (.bool ps[i].rt) ∧ IV D w ps[i].bd (.slice q ps[i].bd.length c) ∧ ps[i].bd.length ≤ c
theorem PV.mono {D E : Nat → Prop} {w w' : World} (hE : ∀ b, D b → E b) (hw : ∀ b, D b → b < w.heap.size → w'.heap[b]? = w.heap[b]?) {ps : List Pr} {p : Option Addr} (h : PV D w ps p) : PV E w' ps p := fun hn => by
  obtain ⟨b, o, hp, hD, hc⟩ := h hn
  refine ⟨b, o, hp, hE b hD, fun i hi => ?_⟩
  obtain ⟨q, c, h1, h2, h3, h4, h5⟩ := hc i hi
  exact ⟨q, c, (cell_same (hw b hD (blk_lt h1)) _).trans h1, (cell_same (hw b hD (blk_lt h2)) _).trans h2, (cell_same (hw b hD (blk_lt h3)) _).trans h3, h4.mono hE hw, h5⟩
theorem PV.take {D : Nat → Prop} {w : World} {ps : List Pr} {p : Option Addr} (h : PV D w ps p) (j : Nat) : PV D w (ps.take j) p := fun hn => by
  obtain ⟨b, o, hp, hD, hc⟩ := h (fun e => hn (by rw [e]; simp))
  refine ⟨b, o, hp, hD, fun i hi => ?_⟩
  have hi2 : i < ps.length := by rw [List.length_take] at hi; omega
  rw [List.getElem_take]
  exact hc i hi2
structure GM (D : Nat → Prop) (w : World) (ps : List Pr) (p : Option Addr) : Prop where
  pv : PV D w ps p
  lt : ∀ b, D b → b < w.heap.size
  nl : ps.length ≤ 9223372036854775806
  bl : ∀ q ∈ ps, q.bd.length ≤ 9223372036854775806
theorem GM.up {D : Nat → Prop} {w w' : World} {ps : List Pr} {p : Option Addr} (h : GM D w ps p) (hb : Below w.heap.size w w') : GM D w' ps p :=
  ⟨h.pv.mono (fun _ h => h) (fun b hb2 _ => hb.block b (h.lt b hb2)), fun b hb2 => by have := h.lt b hb2; have := hb.size; omega, h.nl, h.bl⟩
theorem GM.take {D : Nat → Prop} {w : World} {ps : List Pr} {p : Option Addr} (h : GM D w ps p) (j : Nat) : GM D w (ps.take j) p :=
  ⟨h.pv.take j, h.lt, by rw [List.length_take]; have := h.nl; omega, fun q hq => h.bl q (List.mem_of_mem_take hq)⟩
/-- Production i: its cells. -/
theorem GM.at {D : Nat → Prop} {w : World} {ps : List Pr} {p : Option Addr} (h : GM D w ps p) {j : Nat} (hj : j < ps.length) : ∃ b o q c, p = some ⟨b, o, none⟩ ∧ b < w.heap.size ∧ w.cell? ⟨b, o + j * 3, none⟩ = some (.int .i64 ps[j].hd) ∧ w.cell? ⟨b, o + j * 3 + 1, none⟩ = some (.slice q ps[j].bd.length c) ∧ w.cell? ⟨b, o + j * 3 + 2, none⟩ = some (.bool ps[j].rt) ∧ IV D w ps[j].bd (.slice q ps[j].bd.length c) ∧ ps[j].bd.length ≤ 9223372036854775806 ∧ ps[j] ∈ ps := by
  obtain ⟨b, o, rfl, hD, hc⟩ := h.pv (by intro e; rw [e] at hj; simp at hj)
  obtain ⟨q, c, h1, h2, h3, h4, h5⟩ := hc j hj
  exact ⟨b, o, q, c, rfl, h.lt b hD, h1, h2, h3, h4, h.bl _ (List.getElem_mem hj), List.getElem_mem hj⟩
/-- Production i: its cells, and what its body's row may hold. -/
theorem GM.at2 {D : Nat → Prop} {w : World} {ps : List Pr} {p : Option Addr} (h : GM D w ps p) {j : Nat} (hj : j < ps.length) : ∃ b o q c, p = some ⟨b, o, none⟩ ∧ b < w.heap.size ∧ w.cell? ⟨b, o + j * 3, none⟩ = some (.int .i64 ps[j].hd) ∧ w.cell? ⟨b, o + j * 3 + 1, none⟩ = some (.slice q ps[j].bd.length c) ∧ w.cell? ⟨b, o + j * 3 + 2, none⟩ = some (.bool ps[j].rt) ∧ IV D w ps[j].bd (.slice q ps[j].bd.length c) ∧ ps[j].bd.length ≤ 9223372036854775806 ∧ ps[j] ∈ ps ∧ ps[j].bd.length ≤ c := by
  obtain ⟨b, o, rfl, hD, hc⟩ := h.pv (by intro e; rw [e] at hj; simp at hj)
  obtain ⟨q, c, h1, h2, h3, h4, h5⟩ := hc j hj
  exact ⟨b, o, q, c, rfl, h.lt b hD, h1, h2, h3, h4, h.bl _ (List.getElem_mem hj), List.getElem_mem hj, h5⟩
def prV (p : Pr) (q : Option Addr) (c : Nat) : Value := .agg #[.int .i64 p.hd, .slice q p.bd.length c, .bool p.rt]
theorem info38 : (Try.prog.info? 38).map (fun i => (i.zero, i.size)) = some (some (.agg #[.int .i64 0, .slice none 0 0, .bool false]), 3) := by kernel_rfl
theorem zero38 (w : World) : (zeroValue 38).run Try.prog w = .ok (.agg #[.int .i64 0, .slice none 0 0, .bool false]) w := (zero_of_info info38).1 w
set_option maxHeartbeats 8000000 in
theorem equal_any {D E : Nat → Prop} {w : World} {a b : List Int} {pa pb : Option Addr} {ca cb : Nat} (hla : a.length ≤ 9223372036854775806) (hD : ∀ b, D b → b < w.heap.size) (hE : ∀ b, E b → b < w.heap.size) (ha : IV D w a (.slice pa a.length ca)) (hb : IV E w b (.slice pb b.length cb)) :
    Calls Try.prog 58 #[.slice pa a.length ca, .slice pb b.length cb] w fun e w' => e = .returned (.bool (decide (a = b))) ∧ Below w.heap.size w w' := by
  have HA := Lib.hid ha
  have HB := Lib.hid hb
  have HD := Lib.hid hD
  have HE := Lib.hid hE
  have S0 := Lib.hid (Below.refl w.heap.size w)
  clear ha hb hD hE
  by_cases hl : a.length = b.length
  · have HLN := Lib.hid hl
    rw [← hl]
    have hne : (((a.length : Nat) : Int) != ((a.length : Nat) : Int)) = false := by simp
    clear hl
    go_enter Try.func58, Try.ntmps58
    go_wp2_with fail
    go_loopw [13] (fun i wr => ∃ j : Nat, i = .int .i64 (j : Nat) ∧ j ≤ a.length ∧ Hid (a.take j = b.take j) ∧ Hid (Below w.heap.size w wr)) (fun i _ => a.length - (intOf i).toNat)
    case atStart => exact ⟨0, rfl, by omega, Lib.hid (by simp), S0⟩
    case round =>
      clear S0
      obtain ⟨j, rfl, hj, HT, HS⟩ := hrel
      obtain ⟨wo, rfl⟩ : ∃ wo : World, wo = wr := ⟨_, rfl⟩
      by_cases hlt : j < a.length
      · have hltb : j < b.length := by have := HLN.out; omega
        obtain ⟨p', c', he, hh⟩ := HA.out
        injection he with e1 e2 e3
        subst e1 e3
        clear e2
        obtain ⟨ba, oa, rfl, hba, hca⟩ := hh (by intro e; rw [e] at hlt; simp at hlt)
        obtain ⟨p'', c'', he, hh2⟩ := HB.out
        injection he with e4 e5 e6
        subst e4 e6
        obtain ⟨bb, ob, rfl, hbb, hcb⟩ := hh2 (by intro e; rw [e] at hltb; simp at hltb)
        have ca1 : wo.cell? ⟨ba, oa + j, none⟩ = some (.int .i64 a[j]) := (cell_same (HS.out.block ba (HD.out ba hba)) _).trans (hca j hlt)
        have cb1 : wo.cell? ⟨bb, ob + j, none⟩ = some (.int .i64 b[j]) := (cell_same (HS.out.block bb (HE.out bb hbb)) _).trans (hcb j hltb)
        have ht1 : a.take (j + 1) = a.take j ++ [a[j]] := by rw [List.take_add_one, List.getElem?_eq_getElem hlt]; rfl
        have ht2 : b.take (j + 1) = b.take j ++ [b[j]] := by rw [List.take_add_one, List.getElem?_eq_getElem hltb]; rfl
        have hneq : a[j] ≠ b[j] → a ≠ b := fun h e => h (by subst e; rfl)
        generalize a[j] = x at *
        generalize b[j] = y at *
        have HT1 := Lib.hid ht1
        have HT2 := Lib.hid ht2
        have HNE := Lib.hid hneq
        have hltI : (j : Int) < (a.length : Int) := by omega
        have hjI : ¬ (j : Int) < 0 := by omega
        clear hh hh2 hca hcb ht1 ht2 hneq e5 hltb
        by_cases hxy : x = y
        · have hxI : (x != y) = false := by rw [hxy]; simp
          have HT3 : Hid (a.take (j + 1) = b.take (j + 1)) := Lib.hid (by rw [HT1.out, HT2.out, HT.out, hxy])
          clear HT HNE hxy
          go_wp2_with fail
          go_quiet (fail)
          refine at_worldQ (fun z => Below w.heap.size w z) (below_drewN HS.out _) fun z hz => ?_
          have HS2 := Lib.hid hz
          clear hz HS ca1 cb1
          go_wp2_with fail
          go_roundw
          case rel => exact ⟨j + 1, by go_num, by omega, HT3, HS2⟩
          case measure => simp [intOf]; omega
        · have hxI : (x != y) = true := by simpa using hxy
          have HRES : Hid (decide (a = b) = false) := Lib.hid (by simpa using HNE.out hxy)
          clear HT HNE hxy
          go_wp2_with fail
          go_quiet (fail)
          refine at_worldQ (fun z => Below w.heap.size w z) (below_drewN HS.out _) fun z hz => ?_
          have HS2 := Lib.hid hz
          clear hz HS ca1 cb1
          go_wp2_with fail
          go_ret
          exact ⟨vbool6 HRES.out.symm, HS2.out⟩
      · obtain rfl : j = a.length := by omega
        have hab : a = b := by
          have := HT.out
          rwa [List.take_length, HLN.out, List.take_length] at this
        have HRES : Hid (decide (a = b) = true) := Lib.hid (by simpa using hab)
        have hltI : ¬ (a.length : Int) < (a.length : Int) := by omega
        clear hab
        go_wp2_with fail
        go_ret
        exact ⟨vbool6 HRES.out.symm, HS.out⟩
  · have hne : (((a.length : Nat) : Int) != ((b.length : Nat) : Int)) = true := by simp; omega
    have hr : decide (a = b) = false := by simp; intro e; exact hl (by rw [e])
    rw [hr]
    go_enter Try.func58, Try.ntmps58
    go_wp2_with fail
    go_ret
    exact ⟨rfl, S0.out⟩
end Go.Proofs.Ytpmkdpjcpimhkaa
