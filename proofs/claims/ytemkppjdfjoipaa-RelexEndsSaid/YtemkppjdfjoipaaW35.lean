/- Texts of package regs, one behind the other. -/
import Derived.Test.YtemkppjdfjoipaaProg
import Derived.Test.YtemkppjdfjoipaaW34
import Derived.Deep.SlicePairs
import Derived.Deep.Slices
import Derived.Laws.IdiomArrays
import Derived.OpenShut
import Derived.WideBlind
import Derived.Great.BuildSlice
import Derived.WalkKit
import Derived.Maps.OwnSet
import Derived.Maps.OwnOps
import Derived.Maps.Own
import Derived.DeepKeys5
import Derived.BigFrame
import Derived.WalkMore
import Derived.ScopeJumps
import Derived.StillTailTactics
import Derived.Stop.BytesEq
import Derived.WalkLawsBesides
import Derived.WalkSpells
import Derived.Outline
import Derived.Lib.Walk
import Derived.Lib.Hide
import Derived.Lib.Slices
import Derived.Lib.Strings
import Derived.RegionTactic
import Derived.LoopTactic
import Derived.Below
import Derived.IntWalk
import Derived.Deep.QuietTactic
import Derived.BigQuiet
import Derived.Deep.MidRow
import Derived.Maps.AppendAt
import Derived.Laws.Rows
import Derived.Laws.Tables
import Derived.Deep.WholeRow
import Derived.Deep.Cut
import Derived.Deep.CutRange
import Derived.Lib.SliceRun
import Derived.Laws.MakeOwn
import Derived.Deep.RegionLaw
import Derived.Deep.RegionLawGrows
import Derived.Deep.RegionHeld3
import Derived.RegionCalls
import Derived.Deep.RegionWith
import Derived.Deep.Light
import Derived.Laws.CopyOwn
import Derived.Laws.ResultCell
section
/- again: what holds -/
namespace Go.Proofs.Ytemkppjdfjoipaa.I1.X
set_option linter.unusedSimpArgs false
set_option linter.unusedVariables false
set_option maxRecDepth 100000
open Go.RowKit
/- again: what holds while it goes on. -/
structure AgI (B : Nat) (w : World) (b5 b6 b10 b11 b13 : Nat) (vE : Array Value) (tv : Value) (Lo Lt : List P3) (a b : List Nat) (en be k n k2 : Nat) (o1 o2 o3 o4 : Bool) (v1 v2 v3 v4 : Value) (vs : List Value) (q : Option Addr) (f : Nat) (Y : List It) (wr : World) : Prop where
  xs : XS B w o1 o2 o3 o4 v1 v2 v3 v4 (Lt.take n) vs (m0 :: (runM m0 b (Lt.take n)).M) (0 :: (runM m0 b (Lt.take n)).C) (runM m0 b (Lt.take n)).T
  mks : MkS B w Y vs (m0 :: (runM m0 b (Lt.take n)).M)
  mm : IV (fun g => g < B) w (runM m0 b (Lt.take n)).m.cols (.slice q (runM m0 b (Lt.take n)).m.cols.length f) ∨ rI (.slice q (runM m0 b (Lt.take n)).m.cols.length f) (runM m0 b (Lt.take n)).m.cols ∈ Y
  kn : k ≤ n
  nl : n ≤ Lt.length
  kk : k ≤ k2
  kl : k2 ≤ Lo.length
  bef : ∀ j, j < k2 → off Lo j < en + (off Lt n - be)
  nb : ∀ i, k ≤ i → i < n → ∀ j, ¬ Back Lo Lt a b en be i j
  sp : Sep B w wr (xI o1 o2 o3 o4 v1 v2 v3 v4 (Lt.take n) vs (m0 :: (runM m0 b (Lt.take n)).M) (0 :: (runM m0 b (Lt.take n)).C) (runM m0 b (Lt.take n)).T (bxT b13 tv k2 (off Lo k2) :: .box b11 (.cells #[.slice q (runM m0 b (Lt.take n)).m.cols.length f, .int .i64 (runM m0 b (Lt.take n)).m.opn, .int .i64 (runM m0 b (Lt.take n)).m.col, .bool (runM m0 b (Lt.take n)).m.fresh, .int .i64 (runM m0 b (Lt.take n)).m.lead] 36 (0, 0)) :: bxL b10 #[v1, v2, v3, v4] :: bxL b6 zL :: .box b5 (.cells vE 45 (0, 0)) :: Y))
/-- Where it begins. -/
theorem agi_start {N B : Nat} {w wr : World} {d : Df} {kl : List Int} {s t : ByteArray} {st en nw k told lk q7f : Nat} {vE : Array Value} {tv : Value} {p1 p2 p3 p4 q7 : Option Addr} {c1 c2 c3 c4 : Nat} {b5 b6 b10 b11 b13 : Nat} {mk : Mk} {X : List It} (hN : N ≤ B) (hd : MayD d) (hsz : s.size ≤ 65536) (he : Ed1 (bl s) (bl t) st en nw) (hk : Kept (scL d kl s) st k)
    (hlv : LV N w (scL d kl s) (scX d kl s) p1 p2 p3 p4 c1 c2 c3 c4) (ht : (runM m0 (bl s) ((scL d kl s).take k)).T.length = told) (hmk : (runM m0 (bl s) ((scL d kl s).take k)).m = mk) (hlk : mk.cols.length = lk) (hiv : IV (Lt N) w mk.cols (.slice q7 mk.cols.length q7f)) (hone : ∀ r ∈ scL d kl s, 1 ≤ r.2.1)
    (hs : Sep B w wr (.box b13 (.cells #[tv, .int .i64 (k : Nat), .int .i64 (off (scL d kl s) k : Nat)] 117 (0, 0)) :: .box b11 (.cells #[.slice q7 lk q7f, .int .i64 mk.opn, .int .i64 mk.col, .bool mk.fresh, .int .i64 mk.lead] 36 (0, 0)) :: bxL b10 #[.slice p1 k k, .slice p2 (k + 1) (k + 1), .slice p3 (k + 1) (k + 1), .slice p4 told told] :: bxL b6 zL :: .box b5 (.cells vE 45 (0, 0)) :: X)) :
    off (scL d kl t) k = off (scL d kl s) k ∧ ∃ vs, AgI B w b5 b6 b10 b11 b13 vE tv (scL d kl s) (scL d kl t) (bl s) (bl t) en (st + nw) k k k false false false false (.slice p1 k k) (.slice p2 (k + 1) (k + 1)) (.slice p3 (k + 1) (k + 1)) (.slice p4 told told) vs q7 q7f X wr := by
  have h1 := kept_same hd he hk k (Nat.le_refl _)
  have h2 := kept_run hd he hk
  have h3 := kept_off hd he hk
  have hkl : k ≤ (scL d kl s).length := hk.hk
  obtain ⟨x1, x2⟩ := lx_len (scL d kl s) (bl s)
  have e1 := (lx_marks (scL d kl s) (bl s) hkl).1
  have e2 := (lx_counts (scL d kl s) (bl s) hkl).1
  have e3 := (lx_toks (scL d kl s) (bl s) hkl).1
  have htl : told ≤ (scX d kl s).toks.length := by
    have e := congrArg List.length e3
    rw [List.length_take, ht] at e
    show told ≤ (lxM (scL d kl s) (bl s)).toks.length
    omega
  rw [ht] at e3
  obtain ⟨vs, hx, hm⟩ := xs_kept (B := B) hN hlv hkl x1 x2 htl X
  have hk2 : (scL d kl t).take k = (scL d kl s).take k := h1.2.1
  have hr : runM m0 (bl t) ((scL d kl t).take k) = runM m0 (bl s) ((scL d kl s).take k) := h2
  rw [show (scX d kl s).marks.take (k + 1) = _ from e1] at hx hm
  rw [show (scX d kl s).counts.take (k + 1) = _ from e2, show (scX d kl s).toks.take told = _ from e3] at hx
  refine ⟨h3, vs, ⟨?_, ?_, ?_, Nat.le_refl _, ?_, Nat.le_refl _, hkl, ?_, fun i a b => by omega, ?_⟩⟩
  · rw [hr, hk2]; exact hx
  · rw [hr]; exact hm
  · rw [hr, hmk]; exact .inl (hiv.mono (fun b hb => Nat.lt_of_lt_of_le hb hN) (fun b _ _ => rfl))
  · have e := congrArg List.length hk2
    rw [List.length_take, List.length_take] at e
    omega
  · intro j hj
    have a1 := off_mono hone hj hkl
    have a2 := h1.2.2
    have a3 := he.h1
    show off (scL d kl s) j < _
    have a4 : off (scL d kl s) k ≤ st := a2
    omega
  · rw [hr, hmk, hlk]
    exact (((hs.none_ 40 3).none_ 3 1).none_ 36 5).none_ 38 3
end Go.Proofs.Ytemkppjdfjoipaa.I1.X
end
section
/- again: what it answers -/
namespace Go.Proofs.Ytemkppjdfjoipaa.I1.X
set_option linter.unusedSimpArgs false
set_option linter.unusedVariables false
set_option maxRecDepth 100000
open Go.RowKit
/- again: what it answers. -/
structure Cnt (Lo Lt : List P3) (a b : List Nat) (st en be : Nat) (c : Int) : Prop where
  ex : ∃ k n, Kept Lo st k ∧ k ≤ n ∧ c = (n : Int) - (k : Int) ∧ (∀ i, k ≤ i → i < n → ∀ j, ¬ Back Lo Lt a b en be i j) ∧ (n = Lt.length ∨ ∃ j, Back Lo Lt a b en be n j)
def AgP (B : Nat) (w : World) (X : List It) (d : Df) (kl : List Int) (s t : ByteArray) (st en be : Nat) (e : Ending) (w' : World) : Prop :=
  ∃ o1 o2 o3 o4 v1 v2 v3 v4 vs J cnt, e = .returned (.tuple #[.agg #[v1, v2, v3, v4], .int .i64 cnt]) ∧ XS B w o1 o2 o3 o4 v1 v2 v3 v4 (scL d kl t) vs (scX d kl t).marks (scX d kl t).counts (scX d kl t).toks ∧ MkS B w (J ++ X) vs (scX d kl t).marks ∧ Sep B w w' (xI o1 o2 o3 o4 v1 v2 v3 v4 (scL d kl t) vs (scX d kl t).marks (scX d kl t).counts (scX d kl t).toks (J ++ X)) ∧ Cnt (scL d kl s) (scL d kl t) (bl s) (bl t) st en be cnt
theorem kept_ex (L : List P3) (st : Nat) : ∀ (j k : Nat), k + j = L.length → (∀ i (h : i < k) (h2 : i < L.length), off L i + L[i].2.2 ≤ st) → ∃ k, Kept L st k
  | 0, k, h, ha => ⟨k, by omega, fun i hi => ha i hi (by omega), fun h2 => by omega⟩
  | j + 1, k, h, ha => by
    have hk : k < L.length := by omega
    by_cases hc : off L k + L[k].2.2 ≤ st
    · exact kept_ex L st j (k + 1) (by omega) (fun i hi h2 => by
        by_cases e : i = k
        · subst e; exact hc
        · exact ha i (by omega) h2)
    · exact ⟨k, by omega, fun i hi => ha i hi (by omega), fun _ => by omega⟩
theorem kept_uniq {L : List P3} {st j k : Nat} (h : Kept L st j) (h' : Kept L st k) : j = k := by
  rcases Nat.lt_trichotomy j k with hlt | e | hlt
  · have h1 := h'.all j hlt
    have h2 := h.next (by have := h'.hk; omega)
    omega
  · exact e
  · have h1 := h.all k hlt
    have h2 := h'.next (by have := h.hk; omega)
    omega
theorem take_all {L : List P3} {n : Nat} (h : n = L.length) : L.take n = L := by subst h; exact List.take_length
theorem agi_end {B : Nat} {w wr w' : World} {b5 b6 b10 b11 b13 : Nat} {vE : Array Value} {tv : Value} {Lo Lt : List P3} {a b : List Nat} {st en be k n k2 m : Nat} {o1 o2 o3 o4 : Bool} {v1 v2 v3 v4 u4 : Value} {vs : List Value} {q : Option Addr} {f : Nat} {Y Z : List It} (h : AgI B w b5 b6 b10 b11 b13 vE tv Lo Lt a b en be k n k2 o1 o2 o3 o4 v1 v2 v3 v4 vs q f Y wr) (hn : n = Lt.length) (hk : Kept Lo st k)
    (hm : m = (runM m0 b (Lt.take n)).T.length + (endF (runM m0 b (Lt.take n)).m).length)
    (hs : Sep B w w' (fr o1 v1 38 3 (Lt.take n).length (rwL ((Lt.take n).map tR)) :: fr o2 v2 36 5 (m0 :: (runM m0 b (Lt.take n)).M).length (mkL vs (m0 :: (runM m0 b (Lt.take n)).M)) :: fr o3 v3 3 1 ((0 : Int) :: (runM m0 b (Lt.take n)).C).length (zi (0 :: (runM m0 b (Lt.take n)).C)) :: fr true u4 40 3 m (tkL (runM m0 b (Lt.take n)).T ++ tkL (endF (runM m0 b (Lt.take n)).m)) :: Z)) (hZ : ∀ x ∈ Y, x ∈ Z) :
    XS B w o1 o2 o3 true v1 v2 v3 u4 Lt vs (lxM Lt b).marks (lxM Lt b).counts (lxM Lt b).toks ∧ MkS B w Z vs (lxM Lt b).marks ∧ Sep B w w' (xI o1 o2 o3 true v1 v2 v3 u4 Lt vs (lxM Lt b).marks (lxM Lt b).counts (lxM Lt b).toks Z) ∧ Cnt Lo Lt a b st en be ((n : Int) - (k : Int)) := by
  have ht := take_all hn
  have hx := h.xs
  have hmk := h.mks.sub hZ
  rw [ht] at hs hx hmk hm
  subst hm
  rw [← tkL_app, ← List.length_append] at hs
  have hx2 : XS B w o1 o2 o3 true v1 v2 v3 u4 Lt vs (lxM Lt b).marks (lxM Lt b).counts (lxM Lt b).toks := ⟨hx.f1, hx.f2, hx.f3, Fr.own hs.tl.tl.tl⟩
  exact ⟨hx2, hmk, hs, ⟨k, n, hk, h.kn, rfl, h.nb, .inl hn⟩⟩
end Go.Proofs.Ytemkppjdfjoipaa.I1.X
end
section
/- again: the mark -/
namespace Go.Proofs.Ytemkppjdfjoipaa.I1.X
set_option linter.unusedSimpArgs false
set_option linter.unusedVariables false
set_option maxRecDepth 100000
open Go.RowKit
/- again: the mark, there. -/
theorem AgI.iv {B : Nat} {w wr : World} {b5 b6 b10 b11 b13 : Nat} {vE : Array Value} {tv : Value} {Lo Lt : List P3} {a b : List Nat} {en be k n k2 : Nat} {o1 o2 o3 o4 : Bool} {v1 v2 v3 v4 : Value} {vs : List Value} {q : Option Addr} {f : Nat} {Y : List It} (h : AgI B w b5 b6 b10 b11 b13 vE tv Lo Lt a b en be k n k2 o1 o2 o3 o4 v1 v2 v3 v4 vs q f Y wr) :
    IV (fun g => g < wr.heap.size) wr (runM m0 b (Lt.take n)).m.cols (.slice q (runM m0 b (Lt.take n)).m.cols.length f) := by
  have hs := h.sp
  rcases h.mm with h | h
  · exact h.mono (fun g (hg : g < B) => Nat.lt_of_lt_of_le hg hs.sz) (fun g (hg : g < B) _ => hs.bel.block g hg)
  · have hr : It.lies B wr (rI (.slice q (runM m0 b (Lt.take n)).m.cols.length f) (runM m0 b (Lt.take n)).m.cols) := hs.li _ (by
      simp only [List.mem_cons]
      exact .inr (.inr (.inr (.inr (.inr (.inr (.inr (.inr (.inr h)))))))))
    exact (own_iv hr).mono (fun g hg => hg.2.1) (fun _ _ _ => rfl)
theorem endF_pos (m : Mk) : 0 < (endF m).length := by
  unfold endF
  simp only [List.length_append, List.length_replicate, List.length_singleton, List.length_cons, List.length_nil]
  omega
theorem row_at {B g m cap n : Nat} {e : TypeId} {size : Nat} {w0 w : World} {xs : List Value} {L : List It} (h : Sep B w0 w (.row (.slice (some ⟨g, 0, none⟩) m cap) e size n xs :: L)) : ∀ j u, xs[j]? = some u → w.cell? ((⟨g, 0, none⟩ : Addr).add j) = some u := fun j u hu => by
  have hj := (List.getElem?_eq_some_iff.1 hu).1
  rw [Addr.add_mid, Nat.zero_add]
  exact (Sep.rowset h hj u).1.trans hu
end Go.Proofs.Ytemkppjdfjoipaa.I1.X
end
section
/- again: one round on -/
namespace Go.Proofs.Ytemkppjdfjoipaa.I1.X
set_option linter.unusedSimpArgs false
set_option linter.unusedVariables false
set_option maxRecDepth 100000
open Go.RowKit
/- again: one round on. -/
theorem agi_next {B : Nat} {w wr w' : World} {b5 b6 b10 b11 b13 : Nat} {vE : Array Value} {tv : Value} {Lo Ls : List P3} {a b : List Nat} {en be k n k2 k3 : Nat} {o1 o2 o3 o4 u1 u2 u3 u4 : Bool} {v1 v2 v3 v4 x1 x2 x3 x4 : Value} {vs vs' : List Value} {q q' : Option Addr} {f f' : Nat} {Y Y' : List It} {R : Rn} {S : Mk × List Tk}
    (h : AgI B w b5 b6 b10 b11 b13 vE tv Lo Ls a b en be k n k2 o1 o2 o3 o4 v1 v2 v3 v4 vs q f Y wr) (hlt : n < Ls.length) (hR : runM m0 b (Ls.take n) = R) (hS : stepF R.m ((b.drop (off Ls n)).take (Ls[n]).2.1) (Ls[n]).1 ((Ls[n]).2.1 : Nat) = S)
    (hk : k2 ≤ k3) (hkl : k3 ≤ Lo.length) (hbef : ∀ j, j < k3 → off Lo j < en + (off Ls n - be)) (hnb : ∀ j, ¬ Back Lo Ls a b en be n j)
    (hx : XS B w u1 u2 u3 u4 x1 x2 x3 x4 (Ls.take n ++ [Ls[n]]) vs' ((m0 :: R.M) ++ [S.1]) ((0 :: R.C) ++ [((R.T ++ S.2).length : Int)]) (R.T ++ S.2)) (hmk : MkS B w Y' vs' ((m0 :: R.M) ++ [S.1]))
    (hmm : IV (fun g => g < B) w S.1.cols (.slice q' S.1.cols.length f') ∨ rI (.slice q' S.1.cols.length f') S.1.cols ∈ Y')
    (hsp : Sep B w w' (xI u1 u2 u3 u4 x1 x2 x3 x4 (Ls.take n ++ [Ls[n]]) vs' ((m0 :: R.M) ++ [S.1]) ((0 :: R.C) ++ [((R.T ++ S.2).length : Int)]) (R.T ++ S.2) (bxT b13 tv k3 (off Lo k3) :: .box b11 (.cells #[.slice q' S.1.cols.length f', .int .i64 S.1.opn, .int .i64 S.1.col, .bool S.1.fresh, .int .i64 S.1.lead] 36 (0, 0)) :: bxL b10 #[x1, x2, x3, x4] :: bxL b6 zL :: .box b5 (.cells vE 45 (0, 0)) :: Y'))) :
    AgI B w b5 b6 b10 b11 b13 vE tv Lo Ls a b en be k (n + 1) k3 u1 u2 u3 u4 x1 x2 x3 x4 vs' q' f' Y' w' := by
  have hs := run_succ Ls b hlt
  rw [hR, hS] at hs
  have ht := take_snoc Ls hlt
  have ho := off_succ hlt
  refine ⟨?_, ?_, ?_, by have := h.kn; omega, hlt, by have := h.kk; omega, hkl, ?_, ?_, ?_⟩
  · rw [hs, ht]; exact hx
  · rw [hs]; exact hmk
  · rw [hs]; exact hmm
  · intro j hj
    have := hbef j hj
    omega
  · intro i h1 h2 j
    by_cases e : i = n
    · subst e; exact hnb j
    · exact h.nb i h1 (by omega) j
  · rw [hs, ht]; exact hsp
end Go.Proofs.Ytemkppjdfjoipaa.I1.X
end
section
/- again: where old pieces come back -/
namespace Go.Proofs.Ytemkppjdfjoipaa.I1.X
set_option linter.unusedSimpArgs false
set_option linter.unusedVariables false
set_option maxRecDepth 100000
open Go.RowKit
/- again: where old pieces may come back. -/
theorem back_no_le {La Lb : List P3} {a b : List Nat} {en be n : Nat} (h : off Lb n < be) : ∀ j, ¬ Back La Lb a b en be n j := fun j hb => by
  have := hb.le
  omega
theorem off_inj {L : List P3} (h1 : ∀ r ∈ L, 1 ≤ r.2.1) {i j : Nat} (hi : i ≤ L.length) (hj : j ≤ L.length) (h : off L i = off L j) : i = j := by
  rcases Nat.lt_trichotomy i j with h2 | h2 | h2
  · have := off_mono h1 h2 hj; omega
  · exact h2
  · have := off_mono h1 h2 hi; omega
theorem back_no_at {La Lb : List P3} {a b : List Nat} {en be n k : Nat} (h1 : ∀ r ∈ La, 1 ≤ r.2.1) (hk : k ≤ La.length) (hp : en + (off Lb n - be) ≤ off La k) (hb : ∀ j, j < k → off La j < en + (off Lb n - be)) (hne : off La k ≠ en + (off Lb n - be)) : ∀ j, ¬ Back La Lb a b en be n j := fun j h => by
  have h2 := h.at_
  have h3 := h.hk
  rcases Nat.lt_trichotomy j k with h4 | h4 | h4
  · have := hb j h4; omega
  · subst h4; exact hne h2
  · have := off_mono h1 h4 (by omega); omega
theorem back_no_mark {La Lb : List P3} {a b : List Nat} {en be n k : Nat} (h1 : ∀ r ∈ La, 1 ≤ r.2.1) (hk : k ≤ La.length) (he : off La k = en + (off Lb n - be)) (hm : sameB (runM m0 a (La.take k)).m (runM m0 b (Lb.take n)).m = false) : ∀ j, ¬ Back La Lb a b en be n j := fun j h => by
  have h2 := h.at_
  have h3 := h.hk
  have e : j = k := off_inj h1 (by omega) hk (by omega)
  subst e
  have h4 := h.mks
  rw [sameB_iff.2 h4.symm] at hm
  cases hm
theorem back_yes {La Lb : List P3} {a b : List Nat} {en be n k : Nat} (hn : n < Lb.length) (hk : k < La.length) (hle : be ≤ off Lb n) (he : off La k = en + (off Lb n - be)) (hm : sameB (runM m0 a (La.take k)).m (runM m0 b (Lb.take n)).m = true) : Back La Lb a b en be n k :=
  ⟨hn, hk, hle, he, (sameB_iff.1 hm).symm⟩
end Go.Proofs.Ytemkppjdfjoipaa.I1.X
end
