/- Texts of package regs, one behind the other. -/
import Derived.Test.YtemkppjdfjoipaaProg
import Derived.Test.YtemkppjdfjoipaaU41
import Derived.Deep.SlicePairs
import Derived.Deep.Slices
import Derived.Laws.IdiomArrays
import Derived.OpenShut
import Derived.WideBlind
import Derived.Great.BuildSlice
import Derived.WalkKit
import Derived.Maps.OwnSet
import Derived.Maps.OwnOps
import Derived.Maps.Own
import Derived.DeepKeys5
import Derived.BigFrame
import Derived.WalkMore
import Derived.ScopeJumps
import Derived.StillTailTactics
import Derived.Stop.BytesEq
import Derived.WalkLawsBesides
import Derived.WalkSpells
import Derived.Outline
import Derived.Lib.Walk
import Derived.Lib.Hide
import Derived.Lib.Slices
import Derived.Lib.Strings
import Derived.RegionTactic
import Derived.LoopTactic
import Derived.Below
import Derived.IntWalk
import Derived.Deep.QuietTactic
import Derived.BigQuiet
import Derived.Deep.MidRow
import Derived.Maps.AppendAt
import Derived.Laws.Rows
import Derived.Laws.Tables
import Derived.Deep.WholeRow
import Derived.Deep.Cut
import Derived.Deep.CutRange
import Derived.Lib.SliceRun
import Derived.Laws.MakeOwn
import Derived.Deep.RegionLaw
import Derived.Deep.RegionLawGrows
import Derived.Deep.RegionHeld3
import Derived.RegionCalls
import Derived.Deep.RegionWith
import Derived.Deep.Light
import Derived.Laws.CopyOwn
import Derived.Laws.ResultCell
section
/- Package relex. -/
namespace Go.Proofs.Ytemkppjdfjoipaa.I1.X
set_option linter.unusedSimpArgs false
set_option linter.unusedVariables false
set_option maxRecDepth 100000
open Go.RowKit
/- joined. -/
theorem MkS.drop {B : Nat} {w0 : World} {L : List It} {vs : List Value} {ms : List Mk} (h : MkS B w0 L vs ms) (k : Nat) : MkS B w0 L (vs.drop k) (ms.drop k) := by
  refine ⟨by rw [List.length_drop, List.length_drop, h.1], fun i h1 h2 => ?_⟩
  rw [List.getElem_drop, List.getElem_drop]
  exact h.2 (k + i) _ _
end Go.Proofs.Ytemkppjdfjoipaa.I1.X
end
section
/- Package relex. -/
namespace Go.Proofs.Ytemkppjdfjoipaa.I1.X
set_option linter.unusedSimpArgs false
set_option linter.unusedVariables false
set_option maxRecDepth 100000
open Go.RowKit
/- joined: the walk. -/
end Go.Proofs.Ytemkppjdfjoipaa.I1.X
end
section
/- Package relex. -/
namespace Go.Proofs.Ytemkppjdfjoipaa.I1.X
set_option linter.unusedSimpArgs false
set_option linter.unusedVariables false
set_option maxRecDepth 100000
open Go.RowKit
/- Scans: there, Text, Lexed. -/
/-- A scan's pieces. -/
abbrev scL (d : Df) (kl : List Int) (s : ByteArray) : List P3 := pcA d (ksL kl) (bl s)
abbrev scX (d : Df) (kl : List Int) (s : ByteArray) : Lx := lxM (scL d kl s) (bl s)
structure ScV0 (N : Nat) (w : World) (b : Nat) (d : Df) (kl : List Int) (s : ByteArray) (bs : Nat) (p1 p2 p3 p4 : Option Addr) (c1 c2 c3 c4 : Nat) : Prop where
  bn : b < N
  nw : N ≤ w.heap.size
  sn : SN N w bs d kl
  lv : LV N w (scL d kl s) (scX d kl s) p1 p2 p3 p4 c1 c2 c3 c4
  k0 : w.cell? ⟨b, 0, none⟩ = some (.pointer (some ⟨bs, 0, none⟩))
  k1 : w.cell? ⟨b, 1, none⟩ = some (.string s)
  k2 : w.cell? ⟨b, 2, none⟩ = some (.slice p1 (scL d kl s).length c1)
  k3 : w.cell? ⟨b, 3, none⟩ = some (.slice p2 (scX d kl s).marks.length c2)
  k4 : w.cell? ⟨b, 4, none⟩ = some (.slice p3 (scX d kl s).counts.length c3)
  k5 : w.cell? ⟨b, 5, none⟩ = some (.slice p4 (scX d kl s).toks.length c4)
/-- A scan of a text, in block b. -/
def ScV (N : Nat) (w : World) (b : Nat) (d : Df) (kl : List Int) (s : ByteArray) : Prop := ∃ bs p1 p2 p3 p4 c1 c2 c3 c4, ScV0 N w b d kl s bs p1 p2 p3 p4 c1 c2 c3 c4
theorem ScV.up {N M : Nat} {w w' : World} {b : Nat} {d : Df} {kl : List Int} {s : ByteArray} (h : ScV N w b d kl s) (hN : N ≤ M) (hM : M ≤ w'.heap.size) (hb : Below N w w') : ScV M w' b d kl s := by
  obtain ⟨bs, p1, p2, p3, p4, c1, c2, c3, c4, h⟩ := h
  have hc : ∀ o v, w.cell? ⟨b, o, none⟩ = some v → w'.cell? ⟨b, o, none⟩ = some v := fun o v hv => (cell_same (hb.block b h.bn) _).trans hv
  exact ⟨bs, p1, p2, p3, p4, c1, c2, c3, c4, ⟨Nat.lt_of_lt_of_le h.bn hN, hM, h.sn.up hN hM hb, h.lv.up hN hb, hc _ _ h.k0, hc _ _ h.k1, hc _ _ h.k2, hc _ _ h.k3, hc _ _ h.k4, hc _ _ h.k5⟩⟩
/-- What may be of a scan. -/
structure Fine (d : Df) (kl : List Int) (s : ByteArray) : Prop where
  may : MayD d
  rl : ∀ r ∈ d.rl, r < (kl.length : Int)
  kn : kl.length ≤ 1000000
  sz : s.size ≤ 65536
theorem runM_toks : ∀ (L : List P3) (m : Mk) (s : List Nat), May m → Fit L s → m.lead + (s.length : Int) ≤ 65536 → (runM m s L).T.length ≤ L.length * 4100
  | [], m, s, _, _, _ => by simp [runM]
  | r :: L, m, s, h, hf, hl => by
    have h1 := hf.one r (List.mem_cons_self ..)
    have h2 := hf.le
    rw [lens] at h2
    have hmd : Made m (s.take r.2.1) (r.2.1 : Nat) := ⟨by omega, by rw [List.length_take]; omega, by omega⟩
    have hm := stepF_may h hmd (k := r.1)
    have hd := stepF_lead (m := m) (s := s.take r.2.1) (k := r.1) h.l0 (show (0 : Int) ≤ (r.2.1 : Nat) by omega)
    have ih := runM_toks L _ _ hm hf.tl (by rw [List.length_drop]; omega)
    have hs := stepF_len m (s.take r.2.1) r.1 (r.2.1 : Nat)
    have hc := h.len
    simp only [runM, List.length_append, List.length_cons]
    omega
theorem Fine.fit {d : Df} {kl : List Int} {s : ByteArray} (h : Fine d kl s) : Fit (scL d kl s) (bl s) := by
  obtain ⟨h1, h2⟩ := pcA_fit h.may (ksL kl) _ (bl s) (Nat.le_refl _)
  exact ⟨h1, by rw [h2]; exact Nat.le_refl _⟩
theorem Fine.mks {d : Df} {kl : List Int} {s : ByteArray} (h : Fine d kl s) : (∀ m ∈ (scX d kl s).marks, May m) ∧ May (runM m0 (bl s) (scL d kl s)).m := by
  have hb : (m0.lead : Int) + ((bl s).length : Int) ≤ 65536 := by have := h.sz; rw [bl_len]; simp [m0]; omega
  obtain ⟨h1, h2, _⟩ := runM_may (scL d kl s) m0 (bl s) m0_may h.fit hb
  refine ⟨fun m hm => ?_, h2⟩
  rcases List.mem_cons.1 hm with rfl | hm
  · exact m0_may
  · exact h1 m hm
theorem endF_len (m : Mk) : (endF m).length ≤ m.cols.length + 2 := by
  unfold endF
  simp only [List.length_append, List.length_replicate, List.length_singleton]
  split <;> simp <;> omega
theorem clen_bound : ∀ (ms : List Mk), (∀ m ∈ ms, m.cols.length ≤ 4097) → clen ms ≤ ms.length * 4097
  | [], _ => by simp [clen]
  | m :: ms, h => by
    have h1 := h m (List.mem_cons_self ..)
    have h2 := clen_bound ms (fun x hx => h x (List.mem_cons_of_mem _ hx))
    rw [clen, List.length_cons]; omega
/-- How long its lists are. -/
structure Lens (d : Df) (kl : List Int) (s : ByteArray) : Prop where
  l1 : (scL d kl s).length ≤ 65536
  l2 : (scX d kl s).marks.length = (scL d kl s).length + 1
  l3 : (scX d kl s).counts.length = (scL d kl s).length + 1
  l4 : (scX d kl s).toks.length ≤ 270000000
  lc : clen (scX d kl s).marks ≤ 270000000
  pos : ∀ m ∈ (scX d kl s).marks, 0 < m.cols.length
theorem Fine.lens {d : Df} {kl : List Int} {s : ByteArray} (h : Fine d kl s) : Lens d kl s := by
  have hb : (m0.lead : Int) + ((bl s).length : Int) ≤ 65536 := by have := h.sz; rw [bl_len]; simp [m0]; omega
  have h1 : (scL d kl s).length ≤ 65536 := by
    have := fit_len _ h.fit.one
    have := h.fit.le
    rw [bl_len] at this
    have := h.sz; omega
  obtain ⟨m1, m2⟩ := h.mks
  obtain ⟨x1, x2⟩ := lx_len (scL d kl s) (bl s)
  have ht := runM_toks (scL d kl s) m0 (bl s) m0_may h.fit hb
  have he := endF_len (runM m0 (bl s) (scL d kl s)).m
  have hc := m2.len
  have hcl := clen_bound _ (fun m hm => (m1 m hm).len)
  refine ⟨h1, x1, x2, ?_, by rw [x1] at hcl; omega, fun m hm => (m1 m hm).ne⟩
  show ((runM m0 (bl s) (scL d kl s)).T ++ endF (runM m0 (bl s) (scL d kl s)).m).length ≤ _
  rw [List.length_append]; omega
end Go.Proofs.Ytemkppjdfjoipaa.I1.X
end
