/- Texts of package regs, one behind the other. -/
import Derived.Test.YtemkppjdfjoipaaW13
import Derived.Test.YtemkppjdfjoipaaEc
import Derived.Deep.SlicePairs
import Derived.Deep.Slices
import Derived.Laws.IdiomArrays
import Derived.OpenShut
import Derived.WideBlind
import Derived.Great.BuildSlice
import Derived.WalkKit
import Derived.Maps.OwnSet
import Derived.Maps.OwnOps
import Derived.Maps.Own
import Derived.DeepKeys5
import Derived.BigFrame
import Derived.WalkMore
import Derived.ScopeJumps
import Derived.StillTailTactics
import Derived.Stop.BytesEq
import Derived.WalkLawsBesides
import Derived.WalkSpells
import Derived.Outline
import Derived.Lib.Walk
import Derived.Lib.Hide
import Derived.Lib.Slices
import Derived.Lib.Strings
import Derived.RegionTactic
import Derived.LoopTactic
import Derived.Below
import Derived.IntWalk
import Derived.Deep.QuietTactic
import Derived.BigQuiet
import Derived.Deep.MidRow
import Derived.Maps.AppendAt
import Derived.Laws.Rows
import Derived.Laws.Tables
import Derived.Deep.WholeRow
import Derived.Deep.Cut
import Derived.Deep.CutRange
import Derived.Lib.SliceRun
import Derived.Laws.MakeOwn
import Derived.Deep.RegionLaw
import Derived.Deep.RegionLawGrows
import Derived.Deep.RegionHeld3
import Derived.RegionCalls
import Derived.Deep.RegionWith
import Derived.Deep.Light
import Derived.Laws.CopyOwn
import Derived.Laws.ResultCell
import Derived.Test.YtemkppjdfjoipaaProg
import Derived.Test.YtemkppjdfjoipaaIp
section
/- Package relex. -/
namespace Go.Proofs.Ytemkppjdfjoipaa.I1.X
set_option linter.unusedSimpArgs false
set_option linter.unusedVariables false
set_option maxRecDepth 100000
open Go.RowKit
open I1 (Mk Tk Rw Lx May Made m0 stepF endF runF allR allQ areP stepF_may stepF_lead m0_may)
/- Scans: plain. What an edit leaves. -/
def lxM (L : List P3) (s : List Nat) : Lx := ⟨m0 :: (runM m0 s L).M, 0 :: (runM m0 s L).C, (runM m0 s L).T ++ endF (runM m0 s L).m⟩
theorem allQ_lx {d : Df} (hd : MayD d) (ks : Nat → Int) {s : ByteArray} (h : s.size ≤ 65536) : allQ s ((pcA d ks (bl s)).map tR) = (((pcA d ks (bl s)).map tR, lxM (pcA d ks (bl s)) (bl s)), 0) := by
  have hf := pcA_fit hd ks _ (bl s) (Nat.le_refl _)
  unfold allQ
  rw [if_neg (by omega), areP_fit _ s.size hf.1 (by rw [hf.2, bl_len]), if_neg (by simp)]
  have e : I1.bl s = bl s := rfl
  rw [e]
  unfold allR lxM
  rw [runF_runM]
  simp [upC_zero]
theorem lx_split (L : List P3) (s : List Nat) (n : Nat) :
    lxM L s = ⟨m0 :: ((runM m0 s (L.take n)).M ++ (runM (runM m0 s (L.take n)).m (s.drop (off L n)) (L.drop n)).M), 0 :: ((runM m0 s (L.take n)).C ++ upC (runM m0 s (L.take n)).T.length (runM (runM m0 s (L.take n)).m (s.drop (off L n)) (L.drop n)).C), (runM m0 s (L.take n)).T ++ ((runM (runM m0 s (L.take n)).m (s.drop (off L n)) (L.drop n)).T ++ endF (runM (runM m0 s (L.take n)).m (s.drop (off L n)) (L.drop n)).m)⟩ := by
  have h := runM_app (L.take n) (L.drop n) m0 s
  rw [List.take_append_drop] at h
  unfold lxM
  rw [h]
  simp [off]
set_option linter.unusedSectionVars false
section
variable (L : List P3) (s : List Nat) {n : Nat} (hn : n ≤ L.length)
include hn
theorem take_ln : (L.take n).length = n := by simp; omega
theorem lx_marks : (lxM L s).marks.take (n + 1) = m0 :: (runM m0 s (L.take n)).M ∧ (lxM L s).marks.drop (n + 1) = (runM (runM m0 s (L.take n)).m (s.drop (off L n)) (L.drop n)).M := by
  have hl : (runM m0 s (L.take n)).M.length = n := by rw [(runM_len _ _ _).1, take_ln L hn]
  rw [lx_split L s n]
  simp only [List.take_succ_cons, List.drop_succ_cons]
  exact ⟨by rw [List.take_left' hl], by rw [List.drop_left' hl]⟩
theorem lx_counts : (lxM L s).counts.take (n + 1) = 0 :: (runM m0 s (L.take n)).C ∧ (lxM L s).counts.drop (n + 1) = upC (runM m0 s (L.take n)).T.length (runM (runM m0 s (L.take n)).m (s.drop (off L n)) (L.drop n)).C := by
  have hl : (runM m0 s (L.take n)).C.length = n := by rw [(runM_len _ _ _).2, take_ln L hn]
  rw [lx_split L s n]
  simp only [List.take_succ_cons, List.drop_succ_cons]
  exact ⟨by rw [List.take_left' hl], by rw [List.drop_left' hl]⟩
theorem lx_count : (lxM L s).counts[n]? = some ((runM m0 s (L.take n)).T.length : Int) := by
  have h := runM_top (L.take n) m0 s
  have hl : (runM m0 s (L.take n)).C.length = n := by rw [(runM_len _ _ _).2, take_ln L hn]
  rw [take_ln L hn, List.getD_eq_getElem?_getD] at h
  have h2 := (lx_counts L s hn).1
  have h3 : ((lxM L s).counts.take (n + 1))[n]? = (lxM L s).counts[n]? := by rw [List.getElem?_take, if_pos (by omega)]
  rw [← h3, h2]
  rw [List.getElem?_eq_getElem (by simp [hl])] at h ⊢
  rw [← h]; rfl
theorem lx_toks : (lxM L s).toks.take (runM m0 s (L.take n)).T.length = (runM m0 s (L.take n)).T ∧ (lxM L s).toks.drop (runM m0 s (L.take n)).T.length = (runM (runM m0 s (L.take n)).m (s.drop (off L n)) (L.drop n)).T ++ endF (runM (runM m0 s (L.take n)).m (s.drop (off L n)) (L.drop n)).m := by
  rw [lx_split L s n]
  exact ⟨List.take_left' rfl, List.drop_left' rfl⟩
theorem lx_mark : (lxM L s).marks[n]? = some (runM m0 s (L.take n)).m := by
  have h3 : ((lxM L s).marks.take (n + 1))[n]? = (lxM L s).marks[n]? := by rw [List.getElem?_take, if_pos (by omega)]
  rw [← h3, (lx_marks L s hn).1]
  have key : ∀ (K : List P3) (m : Mk) (s : List Nat), (m :: (runM m s K).M)[K.length]? = some (runM m s K).m := by
    intro K
    induction K with
    | nil => intro m s; rfl
    | cons r K ih => intro m s; simp only [runM, List.length_cons, List.getElem?_cons_succ]; exact ih _ _
  have := key (L.take n) m0 s
  rwa [take_ln L hn] at this
end
theorem lx_len (L : List P3) (s : List Nat) : (lxM L s).marks.length = L.length + 1 ∧ (lxM L s).counts.length = L.length + 1 := by
  simp [lxM, (runM_len L m0 s).1, (runM_len L m0 s).2]
theorem take_snoc (L : List P3) {n : Nat} (h : n < L.length) : L.take (n + 1) = L.take n ++ [L[n]] := by
  rw [List.take_add_one, List.getElem?_eq_getElem h]; rfl
/-- One piece more. -/
theorem run_succ (L : List P3) (s : List Nat) {n : Nat} (h : n < L.length) :
    runM m0 s (L.take (n + 1)) = ⟨(runM m0 s (L.take n)).M ++ [(stepF (runM m0 s (L.take n)).m ((s.drop (off L n)).take (L[n]).2.1) (L[n]).1 ((L[n]).2.1 : Nat)).1], (runM m0 s (L.take n)).C ++ [(((runM m0 s (L.take n)).T ++ (stepF (runM m0 s (L.take n)).m ((s.drop (off L n)).take (L[n]).2.1) (L[n]).1 ((L[n]).2.1 : Nat)).2).length : Int)], (runM m0 s (L.take n)).T ++ (stepF (runM m0 s (L.take n)).m ((s.drop (off L n)).take (L[n]).2.1) (L[n]).1 ((L[n]).2.1 : Nat)).2, (stepF (runM m0 s (L.take n)).m ((s.drop (off L n)).take (L[n]).2.1) (L[n]).1 ((L[n]).2.1 : Nat)).1⟩ := by
  rw [take_snoc L h, runM_app]
  have e : lens (L.take n) = off L n := rfl
  rw [e]
  simp only [runM, upC, List.map_cons, List.map_nil, List.append_nil, List.length_append]
  rw [show ((stepF (runM m0 s (List.take n L)).m (List.take L[n].snd.1 (List.drop (off L n) s)) L[n].1 ↑L[n].snd.1).2.length : Int) + ((runM m0 s (List.take n L)).T.length : Int) = (((runM m0 s (List.take n L)).T.length + (stepF (runM m0 s (List.take n L)).m (List.take L[n].snd.1 (List.drop (off L n) s)) L[n].1 ↑L[n].snd.1).2.length : Nat) : Int) by push_cast; omega]
/-- How many pieces an edit keeps. -/
structure Kept (L : List P3) (st k : Nat) : Prop where
  hk : k ≤ L.length
  all : ∀ j (h : j < k), off L j + (L[j]'(by omega)).2.2 ≤ st
  next : ∀ h : k < L.length, st < off L k + L[k].2.2
/-- What an edit makes of a text. -/
structure Ed1 (a b : List Nat) (st en nw : Nat) : Prop where
  h1 : st ≤ en
  h2 : en ≤ a.length
  len : b.length = a.length - (en - st) + nw
  ahead : a.take st = b.take st
  behind : ∀ j, b.drop (st + nw + j) = a.drop (en + j)
theorem kept_same {d : Df} (hd : MayD d) {ks : Nat → Int} {a b : List Nat} {st en nw : Nat} (he : Ed1 a b st en nw) {k : Nat} (hk : Kept (pcA d ks a) st k) :
    ∀ j, j ≤ k → PcI d ks b j (off (pcA d ks a) j) ∧ (pcA d ks b).take j = (pcA d ks a).take j ∧ off (pcA d ks a) j ≤ st
  | 0, _ => ⟨PcI.zero _ _ _, by simp, by rw [off_zero]; omega⟩
  | j + 1, h => by
    obtain ⟨g1, g2, g3⟩ := kept_same hd he hk j (by omega)
    have hj : j < (pcA d ks a).length := by have := hk.hk; omega
    have h1 := pcA_drop hd ks a j (by omega)
    have hlen := he.len; have hh1 := he.h1; have hh2 := he.h2
    obtain ⟨i1, i2, i3, i4, i5⟩ := PcI.keep hd (S := st) he.ahead (by omega) (by omega) h1 g1 hj (hk.all j (by omega))
    rw [off_succ hj]
    refine ⟨i5, ?_, i3⟩
    rw [take_snoc _ i1, take_snoc _ hj, g2, i2]
theorem kept_off {d : Df} (hd : MayD d) {ks : Nat → Int} {a b : List Nat} {st en nw : Nat} (he : Ed1 a b st en nw) {k : Nat} (hk : Kept (pcA d ks a) st k) : off (pcA d ks b) k = off (pcA d ks a) k := (off_of hd (kept_same hd he hk k (Nat.le_refl _)).1).symm
theorem kept_run {d : Df} (hd : MayD d) {ks : Nat → Int} {a b : List Nat} {st en nw : Nat} (he : Ed1 a b st en nw) {k : Nat} (hk : Kept (pcA d ks a) st k) : runM m0 b ((pcA d ks b).take k) = runM m0 a ((pcA d ks a).take k) := by
  obtain ⟨g1, g2, g3⟩ := kept_same hd he hk k (Nat.le_refl _)
  rw [g2]
  refine runM_take _ _ _ _ ?_
  have e : lens ((pcA d ks a).take k) = off (pcA d ks a) k := rfl
  rw [e]
  have := congrArg (List.take (off (pcA d ks a) k)) he.ahead
  rw [List.take_take, List.take_take, Nat.min_eq_left g3] at this
  exact this.symm
/-- The old pieces come back at piece n. -/
structure Back (La Lb : List P3) (a b : List Nat) (en be n k : Nat) : Prop where
  hn : n < Lb.length
  hk : k < La.length
  le : be ≤ off Lb n
  at_ : off La k = en + (off Lb n - be)
  mks : (runM m0 b (Lb.take n)).m = (runM m0 a (La.take k)).m
theorem back_rest {d : Df} (hd : MayD d) {ks : Nat → Int} {a b : List Nat} {st en nw n k : Nat} (he : Ed1 a b st en nw) (h : Back (pcA d ks a) (pcA d ks b) a b en (st + nw) n k) :
    (pcA d ks b).drop n = (pcA d ks a).drop k ∧ b.drop (off (pcA d ks b) n) = a.drop (off (pcA d ks a) k) := by
  have h1 := (pcA_drop hd ks b n (by have := h.hn; omega)).drop
  have h2 := (pcA_drop hd ks a k (by have := h.hk; omega)).drop
  have h3 : b.drop (off (pcA d ks b) n) = a.drop (off (pcA d ks a) k) := by
    rw [h.at_]
    have := he.behind (off (pcA d ks b) n - (st + nw))
    have hle := h.le
    rwa [show st + nw + (off (pcA d ks b) n - (st + nw)) = off (pcA d ks b) n by omega] at this
  exact ⟨by rw [h1, h2, h3], h3⟩
/-- Lists in which the old ones have come back. -/
theorem back_lx {d : Df} (hd : MayD d) {ks : Nat → Int} {a b : List Nat} {st en nw n k : Nat} (he : Ed1 a b st en nw) (h : Back (pcA d ks a) (pcA d ks b) a b en (st + nw) n k) :
    (pcA d ks b) = (pcA d ks b).take n ++ (pcA d ks a).drop k ∧
    lxM (pcA d ks b) b = ⟨(m0 :: (runM m0 b ((pcA d ks b).take n)).M) ++ (lxM (pcA d ks a) a).marks.drop (k + 1), (0 :: (runM m0 b ((pcA d ks b).take n)).C) ++ ((lxM (pcA d ks a) a).counts.drop (k + 1)).map (fun c => c + (((runM m0 b ((pcA d ks b).take n)).T.length : Int) - ((runM m0 a ((pcA d ks a).take k)).T.length : Int))), (runM m0 b ((pcA d ks b).take n)).T ++ (lxM (pcA d ks a) a).toks.drop (runM m0 a ((pcA d ks a).take k)).T.length⟩ := by
  obtain ⟨h1, h2⟩ := back_rest hd he h
  have hk : k ≤ (pcA d ks a).length := by have := h.hk; omega
  refine ⟨by rw [← h1, List.take_append_drop], ?_⟩
  rw [lx_split (pcA d ks b) b n, (lx_marks _ a hk).2, (lx_counts _ a hk).2, (lx_toks _ a hk).2, h1, h2, h.mks]
  rw [Lx.mk.injEq]
  refine ⟨by rw [List.cons_append], ?_, rfl⟩
  rw [List.cons_append]
  congr 2
  simp only [upC, List.map_map]
  refine List.map_congr_left fun c _ => ?_
  simp only [Function.comp]
  omega
/-- How many of the first ones are the same. -/
def cpre : List Tk → List Tk → Nat
  | x :: l, y :: r => if x = y then cpre l r + 1 else 0
  | _, _ => 0
theorem cpre_le : ∀ (l r : List Tk), cpre l r ≤ l.length ∧ cpre l r ≤ r.length
  | [], r => by simp [cpre]
  | x :: l, [] => by simp [cpre]
  | x :: l, y :: r => by
    unfold cpre
    have := cpre_le l r
    split <;> simp <;> omega
theorem cpre_comm : ∀ (l r : List Tk), cpre l r = cpre r l
  | [], [] => rfl
  | [], y :: r => rfl
  | x :: l, [] => rfl
  | x :: l, y :: r => by
    unfold cpre
    by_cases h : x = y
    · rw [if_pos h, if_pos h.symm, cpre_comm l r]
    · rw [if_neg h, if_neg (fun e => h e.symm)]
theorem cpre_self : ∀ (l : List Tk), cpre l l = l.length
  | [] => rfl
  | x :: l => by rw [cpre, if_pos rfl, cpre_self l]; rfl
theorem cpre_take : ∀ (l r : List Tk), l.take (cpre l r) = r.take (cpre l r)
  | [], r => by simp [cpre]
  | x :: l, [] => by simp [cpre]
  | x :: l, y :: r => by
    unfold cpre
    split
    · rename_i h; rw [List.take_succ_cons, List.take_succ_cons, h, cpre_take l r]
    · rfl
theorem cpre_next : ∀ (l r : List Tk) (h1 : cpre l r < l.length) (h2 : cpre l r < r.length), l[cpre l r] ≠ r[cpre l r]
  | [], r, h1, _ => by simp at h1
  | x :: l, [], _, h2 => by simp at h2
  | x :: l, y :: r, h1, h2 => by
    by_cases h : x = y
    · have e : cpre (x :: l) (y :: r) = cpre l r + 1 := by rw [cpre, if_pos h]
      simp only [e, List.getElem_cons_succ]
      rw [e] at h1 h2
      exact cpre_next l r (by simpa using h1) (by simpa using h2)
    · have e : cpre (x :: l) (y :: r) = 0 := by rw [cpre, if_neg h]
      simp only [e, List.getElem_cons_zero]
      exact h
theorem cpre_uniq {l r : List Tk} {n : Nat} (h : l.take n = r.take n) (h1 : n ≤ l.length) (h2 : n ≤ r.length) (h3 : ∀ (a : n < l.length) (b : n < r.length), l[n] ≠ r[n]) : cpre l r = n := by
  induction l generalizing r n with
  | nil => simp at h1; subst h1; simp [cpre]
  | cons x l ih =>
    cases r with
    | nil => simp at h2; subst h2; simp [cpre]
    | cons y r =>
      cases n with
      | zero =>
        have := h3 (by simp) (by simp)
        simp only [List.getElem_cons_zero] at this
        rw [cpre, if_neg this]
      | succ n =>
        rw [List.take_succ_cons, List.take_succ_cons] at h
        injection h with e1 e2
        rw [cpre, if_pos e1, ih e2 (by simpa using h1) (by simpa using h2) (fun a b => by have := h3 (by simpa using a) (by simpa using b); simpa using this)]
theorem cpre_ge {l r : List Tk} {n : Nat} (h : l.take n = r.take n) (h1 : n ≤ l.length) (h2 : n ≤ r.length) : n ≤ cpre l r := by
  induction l generalizing r n with
  | nil => simp at h1; omega
  | cons x l ih =>
    cases r with
    | nil => simp at h2; omega
    | cons y r =>
      cases n with
      | zero => omega
      | succ n =>
        rw [List.take_succ_cons, List.take_succ_cons] at h
        injection h with e1 e2
        rw [cpre, if_pos e1]
        have := ih e2 (by simpa using h1) (by simpa using h2)
        omega
/-- How many of the last ones are, of those that are not among the first. -/
def csuf (l r : List Tk) : Nat := cpre (l.drop (cpre l r)).reverse (r.drop (cpre l r)).reverse
theorem csuf_comm (l r : List Tk) : csuf l r = csuf r l := by unfold csuf; rw [cpre_comm l r, cpre_comm]
theorem csuf_le (l r : List Tk) : cpre l r + csuf l r ≤ l.length ∧ cpre l r + csuf l r ≤ r.length := by
  have h1 := cpre_le l r
  have h2 := cpre_le (l.drop (cpre l r)).reverse (r.drop (cpre l r)).reverse
  unfold csuf
  simp only [List.length_reverse, List.length_drop] at h2
  omega
end Go.Proofs.Ytemkppjdfjoipaa.I1.X
end
section
/- Package relex. -/
namespace Go.Proofs.Ytemkppjdfjoipaa.I1.X
set_option linter.unusedSimpArgs false
set_option linter.unusedVariables false
set_option maxRecDepth 100000
open Go.RowKit
/- slices.Equal of two lists of numbers. -/
set_option maxHeartbeats 8000000 in
theorem equal_any {D E : Nat → Prop} {w : World} {a b : List Int} {pa pb : Option Addr} {ca cb : Nat} (hla : a.length ≤ 9223372036854775806) (hD : ∀ b, D b → b < w.heap.size) (hE : ∀ b, E b → b < w.heap.size) (ha : IV D w a (.slice pa a.length ca)) (hb : IV E w b (.slice pb b.length cb)) :
    Calls Try.prog 76 #[.slice pa a.length ca, .slice pb b.length cb] w fun e w' => e = .returned (.bool (decide (a = b))) ∧ Below w.heap.size w w' := by
  have HA := Lib.hid ha
  have HB := Lib.hid hb
  have HD := Lib.hid hD
  have HE := Lib.hid hE
  have S0 := Lib.hid (Below.refl w.heap.size w)
  clear ha hb hD hE
  by_cases hl : a.length = b.length
  · have HLN := Lib.hid hl
    rw [← hl]
    have hne : (((a.length : Nat) : Int) != ((a.length : Nat) : Int)) = false := by simp
    clear hl
    go_enter Try.func76, Try.ntmps76
    go_wp2_with fail
    go_loopw [5, 13] (fun _ i wr => ∃ j : Nat, i = .int .i64 (j : Nat) ∧ j ≤ a.length ∧ Hid (a.take j = b.take j) ∧ Hid (Below w.heap.size w wr)) (fun _ i _ => a.length - (intOf i).toNat)
    case atStart => exact ⟨0, rfl, by omega, Lib.hid (by simp), S0⟩
    case round =>
      clear S0
      obtain ⟨j, rfl, hj, HT, HS⟩ := hrel
      obtain ⟨wo, rfl⟩ : ∃ wo : World, wo = wr := ⟨_, rfl⟩
      by_cases hlt : j < a.length
      · have hltb : j < b.length := by have := HLN.out; omega
        obtain ⟨p', c', he, hh⟩ := HA.out
        injection he with e1 e2 e3
        subst e1 e3
        clear e2
        obtain ⟨ba, oa, rfl, hba, hca⟩ := hh (by intro e; rw [e] at hlt; simp at hlt)
        obtain ⟨p'', c'', he, hh2⟩ := HB.out
        injection he with e4 e5 e6
        subst e4 e6
        obtain ⟨bb, ob, rfl, hbb, hcb⟩ := hh2 (by intro e; rw [e] at hltb; simp at hltb)
        have ca1 : wo.cell? ⟨ba, oa + j, none⟩ = some (.int .i64 a[j]) := (cell_same (HS.out.block ba (HD.out ba hba)) _).trans (hca j hlt)
        have cb1 : wo.cell? ⟨bb, ob + j, none⟩ = some (.int .i64 b[j]) := (cell_same (HS.out.block bb (HE.out bb hbb)) _).trans (hcb j hltb)
        have ht1 : a.take (j + 1) = a.take j ++ [a[j]] := by rw [List.take_add_one, List.getElem?_eq_getElem hlt]; rfl
        have ht2 : b.take (j + 1) = b.take j ++ [b[j]] := by rw [List.take_add_one, List.getElem?_eq_getElem hltb]; rfl
        have hneq : a[j] ≠ b[j] → a ≠ b := fun h e => h (by subst e; rfl)
        generalize a[j] = x at *
        generalize b[j] = y at *
        have HT1 := Lib.hid ht1
        have HT2 := Lib.hid ht2
        have HNE := Lib.hid hneq
        have hltI : (j : Int) < (a.length : Int) := by omega
        have hjI : ¬ (j : Int) < 0 := by omega
        clear hh hh2 hca hcb ht1 ht2 hneq e5 hltb
        by_cases hxy : x = y
        · have hxI : (x != y) = false := by rw [hxy]; simp
          have HT3 : Hid (a.take (j + 1) = b.take (j + 1)) := Lib.hid (by rw [HT1.out, HT2.out, HT.out, hxy])
          clear HT HNE hxy
          go_wp2_with fail
          go_quiet (fail)
          refine at_worldQ (fun z => Below w.heap.size w z) (below_drewN HS.out _) fun z hz => ?_
          have HS2 := Lib.hid hz
          clear hz HS ca1 cb1
          go_wp2_with fail
          go_roundw
          case rel => exact ⟨j + 1, by go_num, by omega, HT3, HS2⟩
          case measure => simp [intOf]; omega
        · have hxI : (x != y) = true := by simpa using hxy
          have HRES : Hid (decide (a = b) = false) := Lib.hid (by simpa using HNE.out hxy)
          clear HT HNE hxy
          go_wp2_with fail
          go_quiet (fail)
          refine at_worldQ (fun z => Below w.heap.size w z) (below_drewN HS.out _) fun z hz => ?_
          have HS2 := Lib.hid hz
          clear hz HS ca1 cb1
          go_wp2_with fail
          go_ret
          exact ⟨vbool6 HRES.out.symm, HS2.out⟩
      · obtain rfl : j = a.length := by omega
        have hab : a = b := by
          have := HT.out
          rwa [List.take_length, HLN.out, List.take_length] at this
        have HRES : Hid (decide (a = b) = true) := Lib.hid (by simpa using hab)
        have hltI : ¬ (a.length : Int) < (a.length : Int) := by omega
        clear hab
        go_wp2_with fail
        go_ret
        exact ⟨vbool6 HRES.out.symm, HS.out⟩
  · have hne : (((a.length : Nat) : Int) != ((b.length : Nat) : Int)) = true := by simp; omega
    have hr : decide (a = b) = false := by simp; intro e; exact hl (by rw [e])
    rw [hr]
    go_enter Try.func76, Try.ntmps76
    go_wp2_with fail
    go_ret
    exact ⟨rfl, S0.out⟩
end Go.Proofs.Ytemkppjdfjoipaa.I1.X
end
section
/- Package relex. -/
namespace Go.Proofs.Ytemkppjdfjoipaa.I1.X
set_option linter.unusedSimpArgs false
set_option linter.unusedVariables false
set_option maxRecDepth 100000
open Go.RowKit
/- sameMark, sharing. -/
def sameB (m n : Mk) : Bool := (m.opn == n.opn) && ((m.col == n.col) && ((m.fresh == n.fresh) && ((m.lead == n.lead) && decide (m.cols = n.cols))))
theorem sameB_iff {m n : Mk} : sameB m n = true ↔ m = n := by
  obtain ⟨a, b, c, d, e⟩ := m
  obtain ⟨a', b', c', d', e'⟩ := n
  unfold sameB
  simp only [Bool.and_eq_true, beq_iff_eq, decide_eq_true_eq, Mk.mk.injEq]
  constructor
  · rintro ⟨h1, h2, h3, h4, h5⟩; exact ⟨h5, h1, h2, h3, h4⟩
  · rintro ⟨h5, h1, h2, h3, h4⟩; exact ⟨h1, h2, h3, h4, h5⟩
set_option maxHeartbeats 16000000 in
theorem samemk_any {D E : Nat → Prop} {w : World} {m n : Mk} {p p' : Option Addr} {c c' : Nat} (hl : m.cols.length ≤ 9223372036854775806) (hD : ∀ b, D b → b < w.heap.size) (hE : ∀ b, E b → b < w.heap.size) (ha : IV D w m.cols (.slice p m.cols.length c)) (hb : IV E w n.cols (.slice p' n.cols.length c')) :
    Calls Try.prog 66 #[.agg (mkA (.slice p m.cols.length c) m), .agg (mkA (.slice p' n.cols.length c') n)] w fun e w' => e = .returned (.bool (sameB m n)) ∧ Below w.heap.size w w' := by
  obtain ⟨cols, o, kk, fr, ld⟩ := m
  obtain ⟨cols', o', kk', fr', ld'⟩ := n
  unfold mkA sameB
  simp only [] at hl ha hb ⊢
  have hw0 := ((Below.refl w.heap.size w).alloc (Nat.le_refl _) (.cells #[.slice p cols.length c, .int .i64 o, .int .i64 kk, .bool fr, .int .i64 ld] 36)).alloc (by simp) (.cells #[.slice p' cols'.length c', .int .i64 o', .int .i64 kk', .bool fr', .int .i64 ld'] 36)
  have S0 := Lib.hid hw0
  have HC := Lib.hid (equal_any hl (fun b hb => Nat.lt_of_lt_of_le (hD b hb) hw0.size) (fun b hb => Nat.lt_of_lt_of_le (hE b hb) hw0.size) (ha.mono (D := D) (E := D) (fun b h => h) (fun b hb _ => hw0.block b (hD b hb))) (hb.mono (D := E) (E := E) (fun b h => h) (fun b hb _ => hw0.block b (hE b hb))))
  obtain ⟨bm, hbm⟩ : ∃ b, w.heap.size = b := ⟨_, rfl⟩
  have SB := Lib.hid (((Sep.start w).allocAt hbm (.cells #[.slice p cols.length c, .int .i64 o, .int .i64 kk, .bool fr, .int .i64 ld] 36)).allocAt (b := bm + 1) (by simp [hbm]) (.cells #[.slice p' cols'.length c', .int .i64 o', .int .i64 kk', .bool fr', .int .i64 ld'] 36))
  obtain ⟨ec, hec⟩ : ∃ e, decide (cols = cols') = e := ⟨_, rfl⟩
  rw [hec] at HC ⊢
  clear ha hb hD hE hw0 hec
  go_enter Try.func66, Try.ntmps66
  go_upto_region 1 with fail
  have c0 : ((w.alloc (.cells #[.slice p cols.length c, .int .i64 o, .int .i64 kk, .bool fr, .int .i64 ld] 36)).alloc (.cells #[.slice p' cols'.length c', .int .i64 o', .int .i64 kk', .bool fr', .int .i64 ld'] 36)).cell? ⟨bm, 0, none⟩ = some (.slice p cols.length c) := SB.out.tl.boxAt 0
  have d0 : ((w.alloc (.cells #[.slice p cols.length c, .int .i64 o, .int .i64 kk, .bool fr, .int .i64 ld] 36)).alloc (.cells #[.slice p' cols'.length c', .int .i64 o', .int .i64 kk', .bool fr', .int .i64 ld'] 36)).cell? ⟨bm + 1, 0, none⟩ = some (.slice p' cols'.length c') := SB.out.boxAt 0
  have c1 : ((w.alloc (.cells #[.slice p cols.length c, .int .i64 o, .int .i64 kk, .bool fr, .int .i64 ld] 36)).alloc (.cells #[.slice p' cols'.length c', .int .i64 o', .int .i64 kk', .bool fr', .int .i64 ld'] 36)).cell? ⟨bm, 1, none⟩ = some (.int .i64 o) := SB.out.tl.boxAt 1
  have d1 : ((w.alloc (.cells #[.slice p cols.length c, .int .i64 o, .int .i64 kk, .bool fr, .int .i64 ld] 36)).alloc (.cells #[.slice p' cols'.length c', .int .i64 o', .int .i64 kk', .bool fr', .int .i64 ld'] 36)).cell? ⟨bm + 1, 1, none⟩ = some (.int .i64 o') := SB.out.boxAt 1
  have c2 : ((w.alloc (.cells #[.slice p cols.length c, .int .i64 o, .int .i64 kk, .bool fr, .int .i64 ld] 36)).alloc (.cells #[.slice p' cols'.length c', .int .i64 o', .int .i64 kk', .bool fr', .int .i64 ld'] 36)).cell? ⟨bm, 2, none⟩ = some (.int .i64 kk) := SB.out.tl.boxAt 2
  have d2 : ((w.alloc (.cells #[.slice p cols.length c, .int .i64 o, .int .i64 kk, .bool fr, .int .i64 ld] 36)).alloc (.cells #[.slice p' cols'.length c', .int .i64 o', .int .i64 kk', .bool fr', .int .i64 ld'] 36)).cell? ⟨bm + 1, 2, none⟩ = some (.int .i64 kk') := SB.out.boxAt 2
  have c3 : ((w.alloc (.cells #[.slice p cols.length c, .int .i64 o, .int .i64 kk, .bool fr, .int .i64 ld] 36)).alloc (.cells #[.slice p' cols'.length c', .int .i64 o', .int .i64 kk', .bool fr', .int .i64 ld'] 36)).cell? ⟨bm, 3, none⟩ = some (.bool fr) := SB.out.tl.boxAt 3
  have d3 : ((w.alloc (.cells #[.slice p cols.length c, .int .i64 o, .int .i64 kk, .bool fr, .int .i64 ld] 36)).alloc (.cells #[.slice p' cols'.length c', .int .i64 o', .int .i64 kk', .bool fr', .int .i64 ld'] 36)).cell? ⟨bm + 1, 3, none⟩ = some (.bool fr') := SB.out.boxAt 3
  have c4 : ((w.alloc (.cells #[.slice p cols.length c, .int .i64 o, .int .i64 kk, .bool fr, .int .i64 ld] 36)).alloc (.cells #[.slice p' cols'.length c', .int .i64 o', .int .i64 kk', .bool fr', .int .i64 ld'] 36)).cell? ⟨bm, 4, none⟩ = some (.int .i64 ld) := SB.out.tl.boxAt 4
  have d4 : ((w.alloc (.cells #[.slice p cols.length c, .int .i64 o, .int .i64 kk, .bool fr, .int .i64 ld] 36)).alloc (.cells #[.slice p' cols'.length c', .int .i64 o', .int .i64 kk', .bool fr', .int .i64 ld'] 36)).cell? ⟨bm + 1, 4, none⟩ = some (.int .i64 ld') := SB.out.boxAt 4
  by_cases q0 : o = o'
  · have b0 : (o == o') = true := by simp [q0]
    by_cases q1 : kk = kk'
    · have b1 : (kk == kk') = true := by simp [q1]
      by_cases q2 : fr = fr'
      · have b2 : (fr == fr') = true := by simp [q2]
        by_cases q3 : ld = ld'
        · have b3 : (ld == ld') = true := by simp [q3]
          clear q0 q1 q2 q3
          go_wp2_with fail
          refine HC.out.mono ?_
          rintro _ w2 ⟨rfl, hb⟩
          have S2 := Lib.hid (S0.out.trans (hb.mono S0.out.size))
          clear HC hb SB S0 c0 d0 c1 d1 c2 d2 c3 d3 c4 d4
          go_wp2_with fail
          go_ret
          exact ⟨by simp [b0, b1, b2, b3], hbm ▸ S2.out⟩
        · have b3 : (ld == ld') = false := by simpa using q3
          clear q0 q1 q2 q3 HC
          go_wp2_with fail
          go_ret
          exact ⟨by simp [b0, b1, b2, b3], hbm ▸ S0.out⟩
      · have b2 : (fr == fr') = false := by simpa using q2
        clear q0 q1 q2 HC
        go_wp2_with fail
        go_ret
        exact ⟨by simp [b0, b1, b2], hbm ▸ S0.out⟩
    · have b1 : (kk == kk') = false := by simpa using q1
      clear q0 q1 HC
      go_wp2_with fail
      go_ret
      exact ⟨by simp [b0, b1], hbm ▸ S0.out⟩
  · have b0 : (o == o') = false := by simpa using q0
    clear q0 HC
    go_wp2_with fail
    go_ret
    exact ⟨by simp [b0], hbm ▸ S0.out⟩
end Go.Proofs.Ytemkppjdfjoipaa.I1.X
end
