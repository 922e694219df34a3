/- Texts of package regs, one behind the other. -/
import Derived.Test.YtemkppjdfjoipaaProg
import Derived.Test.YtemkppjdfjoipaaXv
import Derived.Deep.SlicePairs
import Derived.Deep.Slices
import Derived.Laws.IdiomArrays
import Derived.OpenShut
import Derived.WideBlind
import Derived.Great.BuildSlice
import Derived.WalkKit
import Derived.Maps.OwnSet
import Derived.Maps.OwnOps
import Derived.Maps.Own
import Derived.DeepKeys5
import Derived.BigFrame
import Derived.WalkMore
import Derived.ScopeJumps
import Derived.StillTailTactics
import Derived.Stop.BytesEq
import Derived.WalkLawsBesides
import Derived.WalkSpells
import Derived.Outline
import Derived.Lib.Walk
import Derived.Lib.Hide
import Derived.Lib.Slices
import Derived.Lib.Strings
import Derived.RegionTactic
import Derived.LoopTactic
import Derived.Below
import Derived.IntWalk
import Derived.Deep.QuietTactic
import Derived.BigQuiet
import Derived.Deep.MidRow
import Derived.Maps.AppendAt
import Derived.Laws.Rows
import Derived.Laws.Tables
import Derived.Deep.WholeRow
import Derived.Deep.Cut
import Derived.Deep.CutRange
import Derived.Lib.SliceRun
import Derived.Laws.MakeOwn
import Derived.Deep.RegionLaw
import Derived.Deep.RegionLawGrows
import Derived.Deep.RegionHeld3
import Derived.RegionCalls
import Derived.Deep.RegionWith
import Derived.Deep.Light
import Derived.Laws.CopyOwn
import Derived.Laws.ResultCell
import Derived.Shelf.Strconv.Clone
import Derived.Shelf.Lays
import Derived.Shelf.LaysM
section
/- Package relex. -/
namespace Go.Proofs.Ytemkppjdfjoipaa.I1.X
set_option linter.unusedSimpArgs false
set_option linter.unusedVariables false
set_option maxRecDepth 100000
open Go.RowKit
/- Scans: there, Text, Lexed. -/
/-- A scan's pieces. -/
abbrev scL (d : Df) (kl : List Int) (s : ByteArray) : List P3 := pcA d (ksL kl) (bl s)
abbrev scX (d : Df) (kl : List Int) (s : ByteArray) : Lx := lxM (scL d kl s) (bl s)
structure ScV0 (N : Nat) (w : World) (b : Nat) (d : Df) (kl : List Int) (s : ByteArray) (bs : Nat) (p1 p2 p3 p4 : Option Addr) (c1 c2 c3 c4 : Nat) : Prop where
  bn : b < N
  nw : N ≤ w.heap.size
  sn : SN N w bs d kl
  lv : LV N w (scL d kl s) (scX d kl s) p1 p2 p3 p4 c1 c2 c3 c4
  k0 : w.cell? ⟨b, 0, none⟩ = some (.pointer (some ⟨bs, 0, none⟩))
  k1 : w.cell? ⟨b, 1, none⟩ = some (.string s)
  k2 : w.cell? ⟨b, 2, none⟩ = some (.slice p1 (scL d kl s).length c1)
  k3 : w.cell? ⟨b, 3, none⟩ = some (.slice p2 (scX d kl s).marks.length c2)
  k4 : w.cell? ⟨b, 4, none⟩ = some (.slice p3 (scX d kl s).counts.length c3)
  k5 : w.cell? ⟨b, 5, none⟩ = some (.slice p4 (scX d kl s).toks.length c4)
/-- A scan of a text, in block b. -/
def ScV (N : Nat) (w : World) (b : Nat) (d : Df) (kl : List Int) (s : ByteArray) : Prop := ∃ bs p1 p2 p3 p4 c1 c2 c3 c4, ScV0 N w b d kl s bs p1 p2 p3 p4 c1 c2 c3 c4
theorem ScV.up {N M : Nat} {w w' : World} {b : Nat} {d : Df} {kl : List Int} {s : ByteArray} (h : ScV N w b d kl s) (hN : N ≤ M) (hM : M ≤ w'.heap.size) (hb : Below N w w') : ScV M w' b d kl s := by
  obtain ⟨bs, p1, p2, p3, p4, c1, c2, c3, c4, h⟩ := h
  have hc : ∀ o v, w.cell? ⟨b, o, none⟩ = some v → w'.cell? ⟨b, o, none⟩ = some v := fun o v hv => (cell_same (hb.block b h.bn) _).trans hv
  exact ⟨bs, p1, p2, p3, p4, c1, c2, c3, c4, ⟨Nat.lt_of_lt_of_le h.bn hN, hM, h.sn.up hN hM hb, h.lv.up hN hb, hc _ _ h.k0, hc _ _ h.k1, hc _ _ h.k2, hc _ _ h.k3, hc _ _ h.k4, hc _ _ h.k5⟩⟩
/-- What may be of a scan. -/
structure Fine (d : Df) (kl : List Int) (s : ByteArray) : Prop where
  may : MayD d
  rl : ∀ r ∈ d.rl, r < (kl.length : Int)
  kn : kl.length ≤ 1000000
  sz : s.size ≤ 65536
theorem Fine.sm {d : Df} {kl : List Int} {s : ByteArray} (h : Fine d kl s) : Sm (scL d kl s) := by
  obtain ⟨h1, h2⟩ := pcA_fit h.may (ksL kl) _ (bl s) (Nat.le_refl _)
  have hl : ∀ (n : Nat) (l : List Nat), l.length ≤ n → ∀ r ∈ pcA d (ksL kl) l, r.2.2 ≤ l.length + 1 := by
    intro n
    induction n with
    | zero => intro l hl r hr; obtain rfl : l = [] := List.length_eq_zero_iff.1 (by omega); simp [pcA_nil] at hr
    | succ n ih =>
      intro l hl r hr
      by_cases hn : l = []
      · subst hn; simp [pcA_nil] at hr
      · rw [pcA_cons h.may (ksL kl) hn] at hr
        have hf := ofF_facts h.may hn
        have hp := pcF_len h.may (ksL kl) hn
        rcases List.mem_cons.1 hr with e | e
        · rw [e, hp.2.2.2]; exact hf.2.2.2.2.2.2
        · have := ih (l.drop (pcF (ksL kl) (ofF d l)).2.1) (by rw [List.length_drop]; omega) r e
          rw [List.length_drop] at this; omega
  have hsz := h.sz
  refine ⟨h1, fun r hr => ?_, by rw [h2, bl_len]; omega⟩
  have := hl _ (bl s) (Nat.le_refl _) r hr
  rw [bl_len] at this; omega
theorem runM_toks : ∀ (L : List P3) (m : Mk) (s : List Nat), May m → Fit L s → m.lead + (s.length : Int) ≤ 65536 → (runM m s L).T.length ≤ L.length * 4100
  | [], m, s, _, _, _ => by simp [runM]
  | r :: L, m, s, h, hf, hl => by
    have h1 := hf.one r (List.mem_cons_self ..)
    have h2 := hf.le
    rw [lens] at h2
    have hmd : Made m (s.take r.2.1) (r.2.1 : Nat) := ⟨by omega, by rw [List.length_take]; omega, by omega⟩
    have hm := stepF_may h hmd (k := r.1)
    have hd := stepF_lead (m := m) (s := s.take r.2.1) (k := r.1) h.l0 (show (0 : Int) ≤ (r.2.1 : Nat) by omega)
    have ih := runM_toks L _ _ hm hf.tl (by rw [List.length_drop]; omega)
    have hs := stepF_len m (s.take r.2.1) r.1 (r.2.1 : Nat)
    have hc := h.len
    simp only [runM, List.length_append, List.length_cons]
    omega
theorem Fine.fit {d : Df} {kl : List Int} {s : ByteArray} (h : Fine d kl s) : Fit (scL d kl s) (bl s) := by
  obtain ⟨h1, h2⟩ := pcA_fit h.may (ksL kl) _ (bl s) (Nat.le_refl _)
  exact ⟨h1, by rw [h2]; exact Nat.le_refl _⟩
theorem Fine.mks {d : Df} {kl : List Int} {s : ByteArray} (h : Fine d kl s) : (∀ m ∈ (scX d kl s).marks, May m) ∧ May (runM m0 (bl s) (scL d kl s)).m := by
  have hb : (m0.lead : Int) + ((bl s).length : Int) ≤ 65536 := by have := h.sz; rw [bl_len]; simp [m0]; omega
  obtain ⟨h1, h2, _⟩ := runM_may (scL d kl s) m0 (bl s) m0_may h.fit hb
  refine ⟨fun m hm => ?_, h2⟩
  rcases List.mem_cons.1 hm with rfl | hm
  · exact m0_may
  · exact h1 m hm
theorem endF_len (m : Mk) : (endF m).length ≤ m.cols.length + 2 := by
  unfold endF
  simp only [List.length_append, List.length_replicate, List.length_singleton]
  split <;> simp <;> omega
theorem clen_bound : ∀ (ms : List Mk), (∀ m ∈ ms, m.cols.length ≤ 4097) → clen ms ≤ ms.length * 4097
  | [], _ => by simp [clen]
  | m :: ms, h => by
    have h1 := h m (List.mem_cons_self ..)
    have h2 := clen_bound ms (fun x hx => h x (List.mem_cons_of_mem _ hx))
    rw [clen, List.length_cons]; omega
/-- How long its lists are. -/
structure Lens (d : Df) (kl : List Int) (s : ByteArray) : Prop where
  l1 : (scL d kl s).length ≤ 65536
  l2 : (scX d kl s).marks.length = (scL d kl s).length + 1
  l3 : (scX d kl s).counts.length = (scL d kl s).length + 1
  l4 : (scX d kl s).toks.length ≤ 270000000
  lc : clen (scX d kl s).marks ≤ 270000000
  pos : ∀ m ∈ (scX d kl s).marks, 0 < m.cols.length
theorem Fine.lens {d : Df} {kl : List Int} {s : ByteArray} (h : Fine d kl s) : Lens d kl s := by
  have hb : (m0.lead : Int) + ((bl s).length : Int) ≤ 65536 := by have := h.sz; rw [bl_len]; simp [m0]; omega
  have h1 : (scL d kl s).length ≤ 65536 := by
    have := fit_len _ h.fit.one
    have := h.fit.le
    rw [bl_len] at this
    have := h.sz; omega
  obtain ⟨m1, m2⟩ := h.mks
  obtain ⟨x1, x2⟩ := lx_len (scL d kl s) (bl s)
  have ht := runM_toks (scL d kl s) m0 (bl s) m0_may h.fit hb
  have he := endF_len (runM m0 (bl s) (scL d kl s)).m
  have hc := m2.len
  have hcl := clen_bound _ (fun m hm => (m1 m hm).len)
  refine ⟨h1, x1, x2, ?_, by rw [x1] at hcl; omega, fun m hm => (m1 m hm).ne⟩
  show ((runM m0 (bl s) (scL d kl s)).T ++ endF (runM m0 (bl s) (scL d kl s)).m).length ≤ _
  rw [List.length_append]; omega
theorem there_any {w : World} {b bs : Nat} (h : w.cell? ⟨b, 0, none⟩ = some (.pointer (some ⟨bs, 0, none⟩))) : Calls Try.prog 37 #[.pointer (some ⟨b, 0, none⟩)] w fun e w' => e = .returned (.bool true) ∧ w' = w := by
  go_enter Try.func37, Try.ntmps37
  go_wp2_with fail
  go_ret
  exact ⟨rfl, rfl⟩
theorem text_any {N : Nat} {w : World} {b : Nat} {d : Df} {kl : List Int} {s : ByteArray} (h : ScV N w b d kl s) : Calls Try.prog 17 #[.pointer (some ⟨b, 0, none⟩)] w fun e w' => e = .returned (.string s) ∧ w' = w := by
  obtain ⟨bs, p1, p2, p3, p4, c1, c2, c3, c4, h⟩ := h
  have h0 := h.k0
  have h1 := h.k1
  clear h
  go_enter Try.func17, Try.ntmps17
  go_wp2_with fail
  refine (there_any h0).mono ?_
  rintro _ w1 ⟨rfl, rfl⟩
  go_wp2_with fail
  go_ret
  exact ⟨rfl, rfl⟩
end Go.Proofs.Ytemkppjdfjoipaa.I1.X
end
section
/- Package relex. -/
namespace Go.Proofs.Ytemkppjdfjoipaa.I1.X
set_option linter.unusedSimpArgs false
set_option linter.unusedVariables false
set_option maxRecDepth 100000
open Go.RowKit
/- Lexed of a scan. -/
set_option maxHeartbeats 8000000 in
theorem lexed_any {N B : Nat} {w0 w : World} {X : List It} {b : Nat} {d : Df} {kl : List Int} {s : ByteArray} (hN : N ≤ B) (h : ScV N w b d kl s) (hf : Fine d kl s) (hsep : Sep B w0 w X) :
    Calls Try.prog 18 #[.pointer (some ⟨b, 0, none⟩)] w (CpP w0 B X (scL d kl s) (scX d kl s) (scL d kl s).length (scX d kl s).marks.length (scX d kl s).counts.length (scX d kl s).toks.length) := by
  obtain ⟨bs, p1, p2, p3, p4, c1, c2, c3, c4, h⟩ := h
  have hz := zero28
  have hl := hf.lens
  have hbw : b < w.heap.size := Nat.lt_of_lt_of_le h.bn h.nw
  have HC : Hid (∀ y Y, Sep B w0 y Y → Calls Try.prog 41 #[.agg #[.slice p1 (scL d kl s).length c1, .slice p2 (scX d kl s).marks.length c2, .slice p3 (scX d kl s).counts.length c3, .slice p4 (scX d kl s).toks.length c4]] y (CpP w0 B Y (scL d kl s) (scX d kl s) (scL d kl s).length (scX d kl s).marks.length (scX d kl s).counts.length (scX d kl s).toks.length)) := Lib.hid fun y Y hy => by
    have hk : ∀ b, b < N → y.heap[b]? = w.heap[b]? := fun b hb => (hy.bel.block b (by omega)).trans (hsep.bel.block b (by omega)).symm
    have hlv : LV N y (scL d kl s) (scX d kl s) p1 p2 p3 p4 c1 c2 c3 c4 := ⟨h.lv.r.mono (fun b hb => hb) (fun b hb _ => hk b hb), h.lv.m.mono (fun b hb => hb) (fun b hb _ => hk b hb), h.lv.k.mono (fun b hb => hb) (fun b hb _ => hk b hb), h.lv.t.mono (fun b hb => hb) (fun b hb _ => hk b hb), h.lv.h1, h.lv.h2, h.lv.h3, h.lv.h4⟩
    have h1 := hl.l1; have h2 := hl.l2; have h3 := hl.l3; have h4 := hl.l4; have h5 := hl.lc
    exact copied_any hN hlv (by intro e; rw [e] at h2; simp at h2) hl.pos (by omega) (by omega) (by omega) (by omega) (by omega) hy
  have k0 := h.k0
  have k2 := h.k2
  have k3 := h.k3
  have k4 := h.k4
  have k5 := h.k5
  have hbN := h.bn
  obtain ⟨L, hL⟩ : ∃ L, scL d kl s = L := ⟨_, rfl⟩
  obtain ⟨x, hx⟩ : ∃ x, scX d kl s = x := ⟨_, rfl⟩
  rw [hL, hx] at HC ⊢
  rw [hL] at k2
  rw [hx] at k3 k4 k5
  clear h hl hL hx hf
  obtain ⟨n1, hn1⟩ : ∃ n, L.length = n := ⟨_, rfl⟩
  obtain ⟨n2, hn2⟩ : ∃ n, x.marks.length = n := ⟨_, rfl⟩
  obtain ⟨n3, hn3⟩ : ∃ n, x.counts.length = n := ⟨_, rfl⟩
  obtain ⟨n4, hn4⟩ : ∃ n, x.toks.length = n := ⟨_, rfl⟩
  rw [hn1] at HC k2 ⊢
  rw [hn2] at HC k3 ⊢
  rw [hn3] at HC k4 ⊢
  rw [hn4] at HC k5 ⊢
  clear hn1 hn2 hn3 hn4
  obtain ⟨bm, hbm⟩ : ∃ b, w.heap.size = b := ⟨_, rfl⟩
  have S0 := Lib.hid (hsep.allocAt hbm (.cells zL 28))
  have HSP := Lib.hid hsep
  clear hsep
  go_enter Try.func18, Try.ntmps18
  go_upto_region 1 with fail
  refine at_world (fun y => Sep B w0 y (bxL bm zL :: X)) S0.out fun y hy => ?_
  have hk : ∀ o v, w.cell? ⟨b, o, none⟩ = some v → y.cell? ⟨b, o, none⟩ = some v := fun o v hv => (cell_same ((hy.bel.block b (by omega)).trans (HSP.out.bel.block b (by omega)).symm) _).trans hv
  have y0 := hk _ _ k0
  have y2 := hk _ _ k2
  have y3 := hk _ _ k3
  have y4 := hk _ _ k4
  have y5 := hk _ _ k5
  have HC2 := Lib.hid (HC.out y _ hy)
  clear hk k0 k2 k3 k4 k5 hbm S0 hy HC HSP hbw
  go_wp2_with fail
  refine (there_any y0).mono ?_
  rintro _ w1 ⟨rfl, rfl⟩
  go_wp2_with fail
  refine HC2.out.mono ?_
  rintro _ w2 ⟨v1, bT, bR, v3, v4, rfl, hs2⟩
  obtain ⟨q1, j1, hv1⟩ := row_form (hs2.li (.row v1 38 3 n1 (rwL (L.map tR))) (by simp))
  obtain ⟨q3, j3, hv3⟩ := row_form hs2.tl.at
  obtain ⟨q4, j4, hv4⟩ := row_form hs2.at
  subst hv1 hv3 hv4
  have d0 : w2.cell? ⟨bm, 0, none⟩ = some (.slice none 0 0) := hs2.tl.tl.tl.tl.tl.boxAt 0
  have d1 : w2.cell? ⟨bm, 1, none⟩ = some (.slice none 0 0) := hs2.tl.tl.tl.tl.tl.boxAt 1
  have d2 : w2.cell? ⟨bm, 2, none⟩ = some (.slice none 0 0) := hs2.tl.tl.tl.tl.tl.boxAt 2
  have d3 : w2.cell? ⟨bm, 3, none⟩ = some (.slice none 0 0) := hs2.tl.tl.tl.tl.tl.boxAt 3
  have f0 : w2.frozen? ⟨bm, 0, none⟩ = false := hs2.tl.tl.tl.tl.tl.fz 0
  have f1 : w2.frozen? ⟨bm, 1, none⟩ = false := hs2.tl.tl.tl.tl.tl.fz 1
  have f2 : w2.frozen? ⟨bm, 2, none⟩ = false := hs2.tl.tl.tl.tl.tl.fz 2
  have f3 : w2.frozen? ⟨bm, 3, none⟩ = false := hs2.tl.tl.tl.tl.tl.fz 3
  have SF := Lib.hid ((((hs2.setAt [_, _, _, _, _] 0 (.slice q1 n1 j1)).setAt [_, _, _, _, _] 1 (.slice (some ⟨bT, 0, none⟩) n2 n2)).setAt [_, _, _, _, _] 2 (.slice q3 n3 j3)).setAt [_, _, _, _, _] 3 (.slice q4 n4 j4))
  clear hs2 y0 y2 y3 y4 y5 HC2
  go_wp2_with fail
  refine bodyPost_ret (results_cell_row rfl _ _ bm 28 _ (0, 0) _ rfl SF.out.tl.tl.tl.tl.tl.at.2 Try.underlying28 rfl info28) rfl ⟨_, bT, bR, _, _, rfl, ?_⟩
  exact SF.out.sub (.cons_cons _ (.cons_cons _ (.cons_cons _ (.cons_cons _ (.cons_cons _ (.cons _ (.refl _)))))))
end Go.Proofs.Ytemkppjdfjoipaa.I1.X
end
section
/- Contracts of Go's library that the walks of this seat call, laid at its numbers. -/
namespace Go.Proofs
open Go.Shelf
def Try.sren2 : Go.Shelf.Ren := ⟨fun | 165 => 60 | 166 => 61 | 169 => 62 | 240 => 84 | 241 => 85 | 276 => 92 | 277 => 93 | 316 => 79 | n => n, fun | 0 => 0 | 3 => 3 | 4 => 4 | 5 => 5 | 9 => 9 | 20 => 20 | 37 => 105 | 70 => 104 | 72 => 107 | 75 => 110 | 80 => 54 | 127 => 142 | 164 => 152 | n => n, fun | n => n⟩
theorem Try.lay_LaysM_n316 : Go.Proofs.LaysM.n316 Try.prog Try.sren2 := {
  mixed := by kernel_rfl
  f316 := Try.func79.trans (congrArg some (by kernel_rfl))
  t0 := Try.underlying0
  a0 := Try.isAgg0
  z0 := Try.sizeOf0
  v0 := Try.zeroValue0
  t3 := Try.underlying3
  a3 := Try.isAgg3
  z3 := Try.sizeOf3
  v3 := Try.zeroValue3
  t4 := Try.underlying4
  a4 := Try.isAgg4
  z4 := Try.sizeOf4
  v4 := Try.zeroValue4
  t9 := Try.underlying9
  a9 := Try.isAgg9
  z9 := Try.sizeOf9
  v9 := Try.zeroValue9
  t37 := Try.underlying105
  a37 := Try.isAgg105
  z37 := Try.sizeOf105
  v37 := Try.zeroValue105
  t127 := Try.underlying142
  a127 := Try.isAgg142
  z127 := Try.sizeOf142
  v127 := Try.zeroValue142
  t5 := Try.underlying5
  a5 := Try.isAgg5
  z5 := Try.sizeOf5
  v5 := Try.zeroValue5
  i0 := by kernel_rfl
  i3 := by kernel_rfl
  i4 := by kernel_rfl
  i5 := by kernel_rfl
  i9 := by kernel_rfl
  i37 := by kernel_rfl
  i127 := by kernel_rfl }
open Go.RowKit in
theorem Try.stringslite_Clone (s : ByteArray) (w : World) (hlim : s.size ≤ 281474976710656) :
    Calls Try.prog 79 #[.string s] w fun e w' => e = .returned (.string s) ∧ Below w.heap.size w w' := Any.stringslite_Clone Try.lay_LaysM_n316 s w hlim
end Go.Proofs
end
section
/- Package relex. -/
namespace Go.Proofs.Ytemkppjdfjoipaa.I1.X
set_option linter.unusedSimpArgs false
set_option linter.unusedVariables false
set_option maxRecDepth 100000
open Go.RowKit
/- New: rows that are written into. -/
theorem rw_eq (L : List P3) : rwL (L.map tR) = Go.Proofs.Ytemkppjdfjoipaa.rwL L := by
  unfold rwL Go.Proofs.Ytemkppjdfjoipaa.rwL
  rw [List.flatMap_map]
  rfl
theorem Sep.rowset {B g m cap n size j : Nat} {e : TypeId} {w0 w : World} {xs : List Value} {L : List It} (h : Sep B w0 w (.row (.slice (some ⟨g, 0, none⟩) m cap) e size n xs :: L)) (hj : j < xs.length) (v : Value) :
    w.cell? ⟨g, j, none⟩ = xs[j]? ∧ w.frozen? ⟨g, j, none⟩ = false ∧ Sep B w0 (w.setCell ⟨g, j, none⟩ v) (.row (.slice (some ⟨g, 0, none⟩) m cap) e size n (xs.set j v) :: L) := by
  have hr : w.ownsRow B e size (.slice (some ⟨g, 0, none⟩) m cap) n xs := h.at
  rcases hr.2 with ⟨hv, _⟩ | ⟨g', cap', cur, hv, h1, h2, h3, h4, h5, h6⟩
  · cases hv
  · injection hv with e1 e2 e3
    injection e1 with e1
    injection e1 with e1 _
    subst e1 e2 e3
    have hlt : j < cur.toList.length := by
      rw [← h6] at hj
      simp only [List.length_take] at hj
      omega
    have hc : w.cell? ⟨g, j, none⟩ = xs[j]? := by
      rw [cell_of_row w g j cur e (0, 0) h2, ← h6, List.getElem?_take, if_pos (by rw [← hr.1]; exact hj)]
      simp
    refine ⟨hc, frozen_of_row w g j cur e h2, ?_⟩
    refine h.rep (x := .row (.slice (some ⟨g, 0, none⟩) m cap) e size m xs) (x' := .row (.slice (some ⟨g, 0, none⟩) m cap) e size m (xs.set j v)) (Go.Proofs.Ytemkppjdfjoipaa.set_grown w g j v) ⟨by rw [List.length_set]; exact hr.1, .inr ⟨g, cap, cur.setIfInBounds j v, rfl, h1, heap_setCell_same w g j cur e v h2, h3, h4, by rw [Array.size_setIfInBounds]; exact h5, ?_⟩⟩ (fun b hb => .inl hb)
    rw [Array.toList_setIfInBounds, List.take_set, h6]
theorem mkL_put {vs : List Value} {ms : List Mk} {j : Nat} (h : vs.length = ms.length) (hj : j < ms.length) (q : Option Addr) (n f : Nat) : ((((((mkL vs ms).set (j * 5) (.slice q n f)).set (j * 5 + 1) (.int .i64 (ms[j]).opn)).set (j * 5 + 2) (.int .i64 (ms[j]).col)).set (j * 5 + 3) (.bool (ms[j]).fresh)).set (j * 5 + 4) (.int .i64 (ms[j]).lead)) = mkL (vs.set j (.slice q n f)) ms := by
  rw [mkL_set vs ms j _ h hj]
  have h2 : (vs.set j (.slice q n f)).length = ms.length := by rw [List.length_set]; exact h
  have g := fun r hr => mkL_get h2 j hj r hr
  have e1 : ∀ (xs : List Value) (i : Nat) (v : Value), xs[i]? = some v → xs.set i v = xs := fun xs i v hx => by
    obtain ⟨hi, rfl⟩ := List.getElem?_eq_some_iff.1 hx
    exact List.set_getElem_self hi
  have s1 := e1 (mkL (vs.set j (.slice q n f)) ms) (j*5+1) (.int .i64 (ms[j]).opn) (by rw [g 1 (by omega)]; rfl)
  have s2 := e1 (mkL (vs.set j (.slice q n f)) ms) (j*5+2) (.int .i64 (ms[j]).col) (by rw [g 2 (by omega)]; rfl)
  have s3 := e1 (mkL (vs.set j (.slice q n f)) ms) (j*5+3) (.bool (ms[j]).fresh) (by rw [g 3 (by omega)]; rfl)
  have s4 := e1 (mkL (vs.set j (.slice q n f)) ms) (j*5+4) (.int .i64 (ms[j]).lead) (by rw [g 4 (by omega)]; rfl)
  rw [s1, s2, s3, s4]
theorem MkS.set {B : Nat} {w0 : World} {L : List It} {vs : List Value} {ms : List Mk} (h : MkS B w0 L vs ms) {j : Nat} {v : Value} (hv : ∀ hj : j < ms.length, (∃ q f, v = .slice q ms[j].cols.length f ∧ IV (Lt B) w0 ms[j].cols (.slice q ms[j].cols.length f)) ∨ rI v ms[j].cols ∈ L) : MkS B w0 L (vs.set j v) ms := by
  refine ⟨by rw [List.length_set]; exact h.1, fun i h1 h2 => ?_⟩
  rw [List.length_set] at h1
  by_cases e : j = i
  · subst e
    rw [List.getElem_set_self]
    exact hv h2
  · rw [List.getElem_set_ne e]
    exact h.2 i h1 h2
end Go.Proofs.Ytemkppjdfjoipaa.I1.X
end
section
/- Package relex. -/
namespace Go.Proofs.Ytemkppjdfjoipaa.I1.X
set_option linter.unusedSimpArgs false
set_option linter.unusedVariables false
set_option maxRecDepth 100000
open Go.RowKit
/- again: what is kept, in memory. -/
theorem gv_take {D : Nat → Prop} {w : World} {xs : List Value} {p : Option Addr} (h : GV D w xs p) (k : Nat) : GV D w (xs.take k) p := fun hn => by
  obtain ⟨b, o, hp, hb, hc⟩ := h (by intro e; rw [e] at hn; simp at hn)
  refine ⟨b, o, hp, hb, fun j u hu => hc j u ?_⟩
  rw [List.getElem?_take] at hu
  split at hu
  · exact hu
  · cases hu
theorem mkL_take : ∀ (k : Nat) (vs : List Value) (ms : List Mk), vs.length = ms.length → (mkL vs ms).take (k * 5) = mkL (vs.take k) (ms.take k)
  | 0, vs, ms, _ => by simp [mkL]
  | k + 1, [], [], _ => by simp [mkL]
  | k + 1, v :: vs, m :: ms, h => by
    have ih := mkL_take k vs ms (by simpa using h)
    simp only [mkL, List.zipWith_cons_cons, List.flatMap_cons, mkA, List.take_succ_cons] at ih ⊢
    rw [show (k + 1) * 5 = k * 5 + 5 by omega]
    simp only [List.cons_append, List.nil_append, List.take_succ_cons]
    rw [ih]
theorem rwL_take : ∀ (k : Nat) (l : List Rw), (rwL l).take (k * 3) = rwL (l.take k)
  | 0, l => by simp [rwL]
  | k + 1, [] => by simp [rwL]
  | k + 1, r :: l => by
    have ih := rwL_take k l
    simp only [rwL, List.flatMap_cons, rwC, List.take_succ_cons] at ih ⊢
    rw [show (k + 1) * 3 = k * 3 + 3 by omega]
    simp only [List.cons_append, List.nil_append, List.take_succ_cons]
    rw [ih]
theorem MkS.take {B : Nat} {w0 : World} {L : List It} {vs : List Value} {ms : List Mk} (h : MkS B w0 L vs ms) (k : Nat) : MkS B w0 L (vs.take k) (ms.take k) := by
  refine ⟨by rw [List.length_take, List.length_take, h.1], fun i h1 h2 => ?_⟩
  rw [List.length_take] at h1 h2
  rw [List.getElem_take, List.getElem_take]
  exact h.2 i (by omega) (by omega)
theorem gv_le {D E : Nat → Prop} {w : World} {xs : List Value} {p : Option Addr} (hD : ∀ b, D b → E b) (h : GV D w xs p) : GV E w xs p := fun hn => by
  obtain ⟨b, o, hp, hb, hc⟩ := h hn
  exact ⟨b, o, hp, hD b hb, hc⟩
theorem fr_out {B n size : Nat} {w0 : World} {xs : List Value} {p : Option Addr} (hl : xs.length = n * size) (hs : 0 < size) (hg : GV (Lt B) w0 xs p) : Fr B w0 false (.slice p n n) size n xs := by
  refine ⟨hl, fun _ => ⟨p, rfl, fun hp => ?_, hg⟩⟩
  rcases Nat.eq_zero_or_pos n with h0 | h0
  · exact h0
  · obtain ⟨b, o, e, _⟩ := hg (by intro e; rw [e] at hl; simp at hl; have := Nat.mul_pos h0 hs; omega)
    rw [hp] at e; cases e
theorem xs_kept {N B : Nat} {w : World} {Lo : List P3} {xo : Lx} {p1 p2 p3 p4 : Option Addr} {c1 c2 c3 c4 k told : Nat} (hN : N ≤ B) (h : LV N w Lo xo p1 p2 p3 p4 c1 c2 c3 c4) (hk : k ≤ Lo.length) (hm : xo.marks.length = Lo.length + 1) (hc : xo.counts.length = Lo.length + 1) (ht : told ≤ xo.toks.length) (L0 : List It) :
    ∃ vs, XS B w false false false false (.slice p1 k k) (.slice p2 (k + 1) (k + 1)) (.slice p3 (k + 1) (k + 1)) (.slice p4 told told) (Lo.take k) vs (xo.marks.take (k + 1)) (xo.counts.take (k + 1)) (xo.toks.take told) ∧ MkS B w L0 vs (xo.marks.take (k + 1)) := by
  have hle : ∀ b, Lt N b → Lt B b := fun b (hb : b < N) => Nat.lt_of_lt_of_le hb hN
  obtain ⟨b2, o2, vs, rfl, hb2, hms, hvs, hrow⟩ := mv_row2 (B := B) L0 (h.m.mono hle (fun b _ _ => rfl)) (by intro e; rw [e] at hm; simp at hm)
  have hg1 : GV (Lt B) w (rwL (Lo.map tR)) p1 := by
    have e := WV.gv (RW.wv h.r)
    rw [tkL_rwL] at e
    exact gv_le hle e
  have l1 : (Lo.take k).length = k := by rw [List.length_take]; omega
  have l2 : (xo.marks.take (k + 1)).length = k + 1 := by rw [List.length_take]; omega
  have l3 : (xo.counts.take (k + 1)).length = k + 1 := by rw [List.length_take]; omega
  have l4 : (xo.toks.take told).length = told := by rw [List.length_take]; omega
  refine ⟨vs.take (k + 1), ⟨?_, ?_, ?_, ?_⟩, hms.take (k + 1)⟩
  · rw [l1]
    have e := gv_take hg1 (k * 3)
    rw [rwL_take, ← List.map_take] at e
    exact fr_out (by rw [rwL_len, List.length_map, l1]) (by omega) e
  · rw [l2]
    have e : GV (Lt B) w (mkL vs xo.marks) (some ⟨b2, o2, none⟩) := fun _ => ⟨b2, o2, rfl, hb2, hrow⟩
    have e := gv_take e ((k + 1) * 5)
    rw [mkL_take _ _ _ hms.1] at e
    exact fr_out (by rw [mkL_len (hms.take (k + 1)).1, l2]) (by omega) e
  · rw [l3]
    have e := gv_take (gv_le hle (IV.gv h.k)) (k + 1)
    rw [show (zi xo.counts).take (k + 1) = zi (xo.counts.take (k + 1)) by simp [zi]] at e
    exact fr_out (by rw [zi_length, l3, Nat.mul_one]) (by omega) e
  · rw [l4]
    have e := gv_take (gv_le hle (WV.gv h.t)) (told * 3)
    rw [tkL_rwL, rwL_take, ← tkL_rwL] at e
    exact fr_out (by rw [tkL_len, l4]) (by omega) e
end Go.Proofs.Ytemkppjdfjoipaa.I1.X
end
