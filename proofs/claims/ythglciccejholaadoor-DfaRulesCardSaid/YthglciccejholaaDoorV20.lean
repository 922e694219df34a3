/- Texts of package regs, one behind the other. -/
import Derived.Test.YthglciccejholaaDoorProg
import Derived.Test.YthglciccejholaaDoorV18
import Derived.Test.YthglciccejholaaDoorV19
import Derived.RangeFuncNested
import Derived.RangeFuncBound
import Derived.RangeFuncCalls
import Derived.RangeFuncLeaves
import Derived.RangeFuncBox
import Derived.Shelf.Abstract
import Derived.Shelf.RegionOpen
import Derived.WalkKit
import Derived.OwnWalkIn
import Derived.TacticsInMore
import Derived.LoopNIn
import Derived.LoopIn
import Derived.Below
import Derived.Lib.Hide
import Derived.Lib.Walk
import Derived.Laws.AppendOwn
import Derived.Laws.OwnMore
import Derived.Deep.MidRow
import Derived.Deep.WholeRow
import Derived.Test.YthglciccejholaaDoorV1
import Derived.Test.YthglciccejholaaDoorV2
import Derived.BigFrame
import Derived.WalkMore
import Derived.ScopeJumps
import Derived.StillTailTactics
import Derived.Stop.BytesEq
import Derived.WalkLawsBesides
import Derived.WalkSpells
import Derived.Outline
import Derived.Lib.Slices
import Derived.Lib.Strings
import Derived.RegionTactic
import Derived.LoopTactic
import Derived.IntWalk
import Derived.Deep.QuietTactic
import Derived.BigQuiet
import Derived.Maps.AppendAt
import Derived.Laws.Rows
import Derived.Laws.Tables
import Derived.Deep.Cut
import Derived.Deep.CutRange
import Derived.Lib.SliceRun
import Derived.Laws.MakeOwn
import Derived.Deep.RegionLaw
import Derived.Deep.RegionLawGrows
import Derived.Deep.RegionHeld3
import Derived.RegionCalls
import Derived.Deep.RegionWith
import Derived.Deep.Light
import Derived.Laws.CopyOwn
import Derived.Laws.ResultCell
section
/- Package dfa. -/
namespace Go.Proofs.YthglciccejholaaDoor
set_option linter.unusedSimpArgs false
set_option linter.unusedVariables false
set_option maxRecDepth 100000
open Go.RowKit Go.Shelf
/- A front within a round of a range: what is no cells stays. -/
section
variable {D : Nat → Prop} {B : Nat} {w0 y z : World} {F o T : Nat} {R0 : Array Value} {la l : List Nat} {sl : Value}
def Dn (D : Nat → Prop) (y : World) (b : Nat) : Prop := D b ∨ ∃ ob : Obj, y.heap[b]? = some ob ∧ ob.isCells = false
theorem FS.wide (h : FS D B w0 y F o T R0 la l sl) : FS (Dn D y) B y y F o T R0 la l sl := by
  obtain ⟨R, hR, hr⟩ := h.f
  have hno : ∀ (b : Nat) cs t fz, y.heap[b]? = some (Obj.cells cs t fz) → ¬ ∃ ob : Obj, y.heap[b]? = some ob ∧ ob.isCells = false := by
    rintro b cs t fz hc ⟨ob, ho, hoc⟩
    rw [hc] at ho
    cases ho
    cases hoc
  refine ⟨Below.refl _ _, ⟨R, hR, hr⟩, h.row, h.hF, h.sF, h.sz, fun _ _ => rfl, ?_, ?_, ?_⟩
  · rintro (hd | hd)
    · exact h.dF hd
    · exact hno F _ _ _ hR hd
  · rintro g hg (hd | hd)
    · exact h.dS g hg hd
    · rcases h.row.2 with ⟨e, _⟩ | ⟨g', cap, cur, e, h1, h2, _⟩
      · rw [e] at hg; cases hg
      · rw [e] at hg; cases hg
        exact hno g' _ _ _ h2 hd
  · rintro b (hd | ⟨ob, hd, _⟩)
    · exact h.dl b hd
    · exact (Array.getElem?_eq_some_iff.1 hd).1
theorem FS.narrow {la' l' : List Nat} {sl' : Value} (h : FS D B w0 y F o T R0 la l sl) (h2 : FS (Dn D y) B y z F o T R0 la' l' sl') : FS D B w0 z F o T R0 la' l' sl' :=
  ⟨h.bel.trans h2.bel, h2.f, h2.row, h2.hF, h2.sF, h2.sz, fun b hd => (h2.kp b (.inl hd)).trans (h.kp b hd), fun hd => h2.dF (.inl hd), fun g hg hd => h2.dS g hg (.inl hd), fun b hd => h2.dl b (.inl hd)⟩
theorem FS.keeps {la' l' : List Nat} {sl' : Value} {C : Nat} (h2 : FS (Dn D y) B y z F o T R0 la' l' sl') : KeepsFrom C y z :=
  ⟨h2.bel.size, fun k ob _ hk ho => (h2.kp k (.inr ⟨ob, hk, ho⟩)).trans hk⟩
end
end Go.Proofs.YthglciccejholaaDoor
end
section
/- Packages dfa, mini, munch. -/
namespace Go.Proofs.YthglciccejholaaDoor
set_option linter.unusedSimpArgs false
set_option linter.unusedVariables false
set_option maxRecDepth 100000
open Go.RowKit
/- Automata without choice: plain. -/
/-- An automaton. -/
structure Df where
  st : Int
  cl : Nat → Nat
  nx : List (List Int)
  rl : List Int
def row0 (d : Df) : List Int := match d.nx with
  | [] => []
  | r :: _ => r
def clsOk (d : Df) : Bool := (List.range 256).all fun i => decide (d.cl i < (row0 d).length)
def rowOk (k m : Nat) (r : List Int) : Bool := decide (r.length = m) && r.all fun x => decide (x < (k : Int))
def rowsOk (d : Df) : Bool := d.nx.all (rowOk d.nx.length (row0 d).length)
def rlsOk (d : Df) : Bool := d.rl.all fun r => decide (r < 48)
def d7_stOk (d : Df) : Bool := decide (0 ≤ d.st) && decide (d.st < (d.nx.length : Int))
def mayD (d : Df) : Bool := decide (d.nx.length = d.rl.length) && (d7_stOk d && ((decide ((row0 d).length ≤ 256) && clsOk d) && (rowsOk d && rlsOk d)))
def tooD (d : Df) : Bool := decide (2048 < d.nx.length) || decide (2048 < d.rl.length)
/-- Check's answer. -/
def chkD (d : Df) : Int := if tooD d = true then 3 else if mayD d = true then 0 else 2
/-- Where a byte leads from a state; -1: nowhere. -/
def cellAt (d : Df) (s c : Nat) : Int := match d.nx[s]? with
  | some r => r.getD c (-1)
  | none => -1
def goD (d : Df) (s : Int) (b : Nat) : Int := if s < 0 then -1 else if cellAt d s.toNat (d.cl b) < 0 then -1 else cellAt d s.toNat (d.cl b)
def walkD (d : Df) : Int → List Nat → Int
  | s, [] => s
  | s, b :: r => walkD d (goD d s b) r
def rlAt (d : Df) (s : Int) : Int := if s < 0 then -1 else if d.rl.getD s.toNat (-1) < 0 then -1 else d.rl.getD s.toNat (-1)
structure MayD (d : Df) : Prop where
  ln : d.nx.length = d.rl.length
  s0 : 0 ≤ d.st
  s1 : d.st < (d.nx.length : Int)
  m1 : (row0 d).length ≤ 256
  cl : ∀ i, i < 256 → d.cl i < (row0 d).length
  rw : ∀ r ∈ d.nx, r.length = (row0 d).length ∧ ∀ x ∈ r, x < (d.nx.length : Int)
  rl : ∀ r ∈ d.rl, r < 48
  big : d.nx.length ≤ 2048
theorem chk_may {d : Df} (h : chkD d = 0) : MayD d := by
  unfold chkD at h
  by_cases h1 : tooD d = true
  · rw [if_pos h1] at h; cases h
  · rw [if_neg h1] at h
    by_cases h2 : mayD d = true
    · unfold mayD d7_stOk clsOk rowsOk rowOk rlsOk at h2
      simp only [Bool.and_eq_true, decide_eq_true_eq, List.all_eq_true, List.mem_range] at h2
      obtain ⟨a1, ⟨a2, a3⟩, ⟨a4, a5⟩, a6, a7⟩ := h2
      unfold tooD at h1
      simp only [Bool.or_eq_true, decide_eq_true_eq, not_or] at h1
      exact ⟨a1, a2, a3, a4, a5, a6, a7, by omega⟩
    · rw [if_neg h2] at h; cases h
theorem goD_lt {d : Df} (h : MayD d) (s : Int) (b : Nat) : goD d s b < (d.nx.length : Int) ∧ -1 ≤ goD d s b := by
  have := h.s0; have := h.s1
  unfold goD
  split
  · omega
  · split
    · omega
    · refine ⟨?_, by omega⟩
      unfold cellAt
      cases hs : d.nx[s.toNat]? with
      | none => show (-1 : Int) < _; omega
      | some r =>
        show r.getD (d.cl b) (-1) < _
        rw [List.getD_eq_getElem?_getD]
        cases hc : r[d.cl b]? with
        | none => show (-1 : Int) < _; omega
        | some x => exact (h.rw r (List.mem_of_getElem? hs)).2 x (List.mem_of_getElem? hc)
theorem walkD_lt {d : Df} (h : MayD d) : ∀ (x : List Nat) (s : Int), -1 ≤ s → s < (d.nx.length : Int) → walkD d s x < (d.nx.length : Int) ∧ -1 ≤ walkD d s x
  | [], s, h1, h2 => ⟨h2, h1⟩
  | b :: x, s, h1, h2 => by
    rw [walkD]
    exact walkD_lt h x _ (goD_lt h s b).2 (goD_lt h s b).1
theorem goD_neg (d : Df) (b : Nat) : goD d (-1) b = -1 := rfl
theorem walkD_neg (d : Df) : ∀ (x : List Nat), walkD d (-1) x = -1
  | [] => rfl
  | b :: x => by rw [walkD, goD_neg, walkD_neg d x]
end Go.Proofs.YthglciccejholaaDoor
end
section
/- Packages dfa, mini, munch. -/
namespace Go.Proofs.YthglciccejholaaDoor
set_option linter.unusedSimpArgs false
set_option linter.unusedVariables false
set_option maxRecDepth 100000
open Go.RowKit
/- Automata without choice in memory. -/
/-- A list of lists of numbers. -/
def NV (D : Nat → Prop) (w : World) (ls : List (List Int)) (sl : Value) : Prop := ∃ p c, sl = .slice p ls.length c ∧ (ls ≠ [] → ∃ b o, p = some ⟨b, o, none⟩ ∧ D b ∧ ∀ i (h : i < ls.length), ∃ q f, IV D w ls[i] (.slice q ls[i].length f) ∧ w.cell? ⟨b, o + i, none⟩ = some (.slice q ls[i].length f))
theorem NV.mono {D E : Nat → Prop} {w w' : World} (hE : ∀ b, D b → E b) (hw : ∀ b, D b → b < w.heap.size → w'.heap[b]? = w.heap[b]?) {ls : List (List Int)} {sl : Value} (h : NV D w ls sl) : NV E w' ls sl := by
  obtain ⟨p, c, rfl, h⟩ := h
  refine ⟨p, c, rfl, fun hn => ?_⟩
  obtain ⟨b, o, hp, hD, hc⟩ := h hn
  refine ⟨b, o, hp, hE b hD, fun i hi => ?_⟩
  obtain ⟨q, f, h1, h2⟩ := hc i hi
  refine ⟨q, f, h1.mono hE hw, ?_⟩
  rw [← h2]
  exact cell_same (hw b hD (blk_lt h2)) _
/-- An automaton's cells. -/
structure DC (d : Df) (ds : Array Value) (p q : Option Addr) (c f : Nat) : Prop where
  sz : ds.size = 259
  one : ∀ v ∈ ds, v.oneCell' = true
  st : ds[0]? = some (.int .i64 d.st)
  cl : ∀ i, i < 256 → ds[1 + i]? = some (.int .u8 (d.cl i : Nat)) ∧ d.cl i < 256
  nx : ds[257]? = some (.slice p d.nx.length c)
  rl : ds[258]? = some (.slice q d.rl.length f)
/-- What it leads «to». -/
structure DM (D : Nat → Prop) (w : World) (d : Df) (p q : Option Addr) (c f : Nat) : Prop where
  nx : NV D w d.nx (.slice p d.nx.length c)
  rl : IV D w d.rl (.slice q d.rl.length f)
  lt : ∀ b, D b → b < w.heap.size
  l1 : d.nx.length ≤ 9223372036854775806
  l2 : d.rl.length ≤ 9223372036854775806
  l3 : ∀ r ∈ d.nx, r.length ≤ 9223372036854775806
theorem DM.up {D : Nat → Prop} {w w' : World} {d : Df} {p q : Option Addr} {c f : Nat} (h : DM D w d p q c f) (hb : Below w.heap.size w w') : DM D w' d p q c f :=
  ⟨h.nx.mono (fun b h => h) (fun b hd _ => hb.block b (h.lt b hd)), h.rl.mono (fun b h => h) (fun b hd _ => hb.block b (h.lt b hd)), fun b hd => Nat.lt_of_lt_of_le (h.lt b hd) hb.size, h.l1, h.l2, h.l3⟩
/-- In a box. -/
def BX (w : World) (b : Nat) (ds : Array Value) : Prop := w.heap[b]? = some (.cells ds 48 (0, 0))
theorem BX.lt {w : World} {b : Nat} {ds : Array Value} (h : BX w b ds) : b < w.heap.size := (Array.getElem?_eq_some_iff.1 h).1
theorem BX.up {w w' : World} {b : Nat} {ds : Array Value} (h : BX w b ds) (hb : Below w.heap.size w w') : BX w' b ds := (hb.block b h.lt).trans h
theorem BX.cell {w : World} {b : Nat} {ds : Array Value} (h : BX w b ds) (j : Nat) : w.cell? ⟨b, j, none⟩ = ds[j]? := cell_of_row w b j _ 48 (0, 0) h
theorem BX.new (w : World) (ds : Array Value) : BX (w.alloc (.cells ds 48)) w.heap.size ds := heap_alloc_last w _
end Go.Proofs.YthglciccejholaaDoor
end
section
/- Package dfa. -/
namespace Go.Proofs.YthglciccejholaaDoor
set_option linter.unusedSimpArgs false
set_option linter.unusedVariables false
set_option maxRecDepth 100000
open Go.RowKit
/- spread. -/
theorem FS.reb {D : Nat → Prop} {B : Nat} {w0 y : World} {F o T : Nat} {R0 : Array Value} {la l : List Nat} {sl : Value} (h : FS D B w0 y F o T R0 la l sl) (hn : l ≠ []) : ∃ g cap cs, sl = .slice (some ⟨g, 0, none⟩) l.length cap ∧ own1 B g cap l cs y := own1_of h.row hn
set_option maxHeartbeats 8000000 in
theorem spread_any {D : Nat → Prop} {B : Nat} {w0 y : World} {F o T n : Nat} {R0 : Array Value} {sl wsl : Value} {ss : List Nst} {l0 : List Nat} (h : FS D B w0 y F o T R0 l0 l0 sl) (hn : n ≤ 4096) (hss : ss.length = n) (hNV : NV D w0 (ss.map (·.fr)) wsl) (hfr : InB ss) (hfl : ∀ s ∈ ss, s.fr.length ≤ 9223372036854775806) (hnd : l0.Nodup) (hl0 : ∀ s ∈ l0, s < n) :
    Calls Tryd.prog 96 #[.pointer (some ⟨F, o, none⟩), wsl] y fun e y' => e = .returned (.tuple #[]) ∧ ∃ sl', FS D B w0 y' F o T R0 (goF ss (n + 1) 0 l0) (goF ss (n + 1) 0 l0) sl' := by
  obtain ⟨R, hR⟩ : ∃ R, goF ss (n + 1) 0 l0 = R := ⟨_, rfl⟩
  rw [hR]
  obtain ⟨q, c, rfl, hws⟩ := hNV
  rw [List.length_map, hss]
  have HR := Lib.hid hR
  have HN := Lib.hid hnd
  have HL := Lib.hid hl0
  have H := Lib.hid h
  have HWS := Lib.hid hws
  have HFR := Lib.hid hfr
  have HFL := Lib.hid hfl
  have HSS := Lib.hid hss
  clear hR hnd hl0 h hws hfr hfl hss
  go_enter Tryd.func96, Tryd.ntmps96
  go_wp2_with fail
  go_loopw [4] (fun i wr => ∃ (k j : Nat) (l : List Nat) (sl : Value), i = .int .i64 (j : Nat) ∧ Hid (goF ss k j l = R) ∧ n < j + k ∧ Hid (FS D B w0 wr F o T R0 l l sl) ∧ Hid l.Nodup ∧ Hid (∀ s ∈ l, s < n) ∧ j ≤ l.length) (fun i _ => n + 1 - (intOf i).toNat)
  case atStart => exact ⟨n + 1, 0, l0, sl, rfl, HR, by omega, H, HN, HL, by omega⟩
  case round =>
    clear HR H HN HL
    obtain ⟨k, j, l, sl, rfl, HR, hk, H, HN, HL, hj⟩ := hrel
    obtain ⟨wo, rfl⟩ : ∃ wo : World, wo = wr := ⟨_, rfl⟩
    have hln : l.length ≤ n := nd_len HN.out HL.out
    obtain ⟨k, rfl⟩ : ∃ k', k = k' + 1 := ⟨k - 1, by omega⟩
    by_cases hlt : j < l.length
    · have hne : l ≠ [] := by intro e; subst e; simp at hlt
      obtain ⟨g, cap, cs, hsl, hown⟩ := H.out.reb hne
      subst hsl
      obtain ⟨s, hs⟩ : ∃ s, l[j] = s := ⟨_, rfl⟩
      have hsn : s < n := HL.out s (hs ▸ List.getElem_mem hlt)
      have hsn' : s < ss.length := by rw [HSS.out]; exact hsn
      have hgo : goF ss k (j + 1) (rchAll l ss[s].fr) = R := by
        rw [← HR.out, goF, List.getElem?_eq_getElem hlt, hs]
        simp only
        rw [frOf_get hsn']
      obtain ⟨b, u, rfl, hDb, hx⟩ := HWS.out (by intro e; have := congrArg List.length e; simp at this; rw [this] at hsn'; simp at hsn')
      obtain ⟨qf, f, hiv, hcell⟩ := hx s (by simpa using hsn')
      simp only [List.getElem_map] at hiv hcell
      have c1 : wo.cell? ⟨F, o + 64, none⟩ = some (.slice (some ⟨g, 0, none⟩) l.length cap) := H.out.cl
      have cg : wo.cell? ⟨g, j, none⟩ = some (.int .i64 (s : Nat)) := by rw [cell_of_row wo g j _ 3 (0, 0) hown.2.1, hown.2.2.2.2.2 j hlt, hs]
      have cf : wo.cell? ⟨b, u + s, none⟩ = some (.slice qf (ss[s]).fr.length f) := (cell_same (H.out.kp b hDb) _).trans hcell
      have hfs : ∀ x ∈ (ss[s]).fr, 0 ≤ x ∧ x < n := fun x hx => by have := HFR.out s x (by rw [frOf_get hsn']; exact hx); rw [HSS.out] at this; exact this
      have hfl := HFL.out ss[s] (List.getElem_mem hsn')
      generalize (ss[s]).fr = fr at *
      have HIV : Hid (IV D w0 fr (.slice qf fr.length f)) := Lib.hid hiv
      have HGO := Lib.hid hgo
      have HFS := Lib.hid hfs
      have hltI : (j : Int) < (l.length : Int) := by omega
      have hjI : ¬ (j : Int) < 0 := by omega
      have hsI : ¬ (s : Int) < 0 := by omega
      have hsI2 : (s : Int) < (n : Int) := by omega
      clear hiv hgo hfs hcell hx hown hs HR hne
      go_wp2_with fail
      clear c1 cg cf
      go_loopw [27] (fun i wr => ∃ (j2 : Nat) (l2 : List Nat) (sl2 : Value), i = .int .i64 (j2 : Nat) ∧ j2 ≤ fr.length ∧ Hid (rchAll l2 (fr.drop j2) = rchAll l fr) ∧ Hid (FS D B w0 wr F o T R0 l2 l2 sl2) ∧ Hid l2.Nodup ∧ Hid (∀ s ∈ l2, s < n) ∧ l.length ≤ l2.length) (fun i _ => fr.length - (intOf i).toNat)
      case atStart => exact ⟨0, l, _, rfl, by omega, Lib.hid (by simp), H, HN, HL, Nat.le_refl _⟩
      case round =>
        clear H HN HL
        obtain ⟨j2, l2, sl2, rfl, hj2, HRA, H, HN, HL, hll⟩ := hrel
        obtain ⟨wo, rfl⟩ : ∃ wo : World, wo = wr := ⟨_, rfl⟩
        have hln2 : l2.length ≤ n := nd_len HN.out HL.out
        by_cases hlt2 : j2 < fr.length
        · obtain ⟨x, hx⟩ : ∃ x, fr[j2] = x := ⟨_, rfl⟩
          have hx1 := HFS.out x (hx ▸ List.getElem_mem hlt2)
          obtain ⟨m, hm⟩ : ∃ m : Nat, x = (m : Int) := ⟨x.toNat, by omega⟩
          have hmn : m < n := by omega
          have hra : rchAll (rch l2 m) (fr.drop (j2 + 1)) = rchAll l fr := by
            rw [← HRA.out, List.drop_eq_getElem_cons hlt2, rchAll, hx, hm, Int.toNat_natCast]
          obtain ⟨p', c', he, hh⟩ := HIV.out
          cases he
          obtain ⟨bf, uf, rfl, hbf, hcf⟩ := hh (by intro e; rw [e] at hlt2; simp at hlt2)
          have cx : wo.cell? ⟨bf, uf + j2, none⟩ = some (.int .i64 (m : Nat)) := (cell_same (H.out.kp bf hbf) _).trans (by rw [hcf j2 hlt2, hx, hm])
          have hjI2 : ¬ (j2 : Int) < 0 := by omega
          have hltI2 : (j2 : Int) < (fr.length : Int) := by omega
          have HC := Lib.hid (reachS_any H.out (s := m) (by omega) (by omega))
          have HNR := Lib.hid (rch_nd HN.out m)
          have HLR : Hid (∀ s ∈ rch l2 m, s < n) := Lib.hid fun s hs => by
            rcases mem_rch.1 hs with h | rfl
            · exact HL.out s h
            · exact hmn
          have hlr : l.length ≤ (rch l2 m).length := by
            obtain ⟨mm, hmm⟩ := rch_pre l2 m
            rw [hmm, List.length_append]; omega
          have HRA2 := Lib.hid hra
          clear hra hcf hh hx hx1 hm H HN HL HRA
          go_wp2_with fail
          refine HC.out.mono ?_
          rintro _ w5 ⟨rfl, sl5, h5⟩
          have H5 := Lib.hid h5
          clear h5 cx HC
          go_wp2_with fail
          go_roundw
          case rel => exact ⟨j2 + 1, rch l2 m, sl5, by go_num, by omega, HRA2, H5, HNR, HLR, hlr⟩
          case measure => simp [intOf]; omega
        · obtain rfl : j2 = fr.length := by omega
          have hr : l2 = rchAll l fr := by rw [← HRA.out, List.drop_length, rchAll]
          have hgo2 := HGO.out
          rw [← hr] at hgo2
          have HGO2 := Lib.hid hgo2
          have hltI2 : ¬ (fr.length : Int) < (fr.length : Int) := by omega
          clear hr hgo2 HGO HRA
          go_wp2_with fail
          go_roundw
          case rel => exact ⟨k, j + 1, l2, sl2, by go_num, HGO2, by omega, H, HN, HL, by omega⟩
          case measure => simp [intOf]; omega
    · obtain rfl : j = l.length := by omega
      have hr : l = R := by rw [← HR.out, goF, List.getElem?_eq_none (Nat.le_refl _)]
      subst hr
      obtain ⟨p, c, rfl⟩ := row_form H.out.row
      have c1 : wo.cell? ⟨F, o + 64, none⟩ = some (.slice p l.length c) := H.out.cl
      have hltI : ¬ (l.length : Int) < (l.length : Int) := by omega
      go_wp2_with fail
      go_end0
      exact ⟨rfl, _, H.out⟩
end Go.Proofs.YthglciccejholaaDoor
end
