/- Texts of package regs, one behind the other. -/
import Derived.Test.YtemkppjdfjoipaaProg
import Derived.Test.YtemkppjdfjoipaaW35
import Derived.Test.YtemkppjdfjoipaaXv
import Derived.Test.YtemkppjdfjoipaaW7
import Derived.Test.YtemkppjdfjoipaaW34
import Derived.Deep.SlicePairs
import Derived.Deep.Slices
import Derived.Laws.IdiomArrays
import Derived.OpenShut
import Derived.WideBlind
import Derived.Great.BuildSlice
import Derived.WalkKit
import Derived.Maps.OwnSet
import Derived.Maps.OwnOps
import Derived.Maps.Own
import Derived.DeepKeys5
import Derived.BigFrame
import Derived.WalkMore
import Derived.ScopeJumps
import Derived.StillTailTactics
import Derived.Stop.BytesEq
import Derived.WalkLawsBesides
import Derived.WalkSpells
import Derived.Outline
import Derived.Lib.Walk
import Derived.Lib.Hide
import Derived.Lib.Slices
import Derived.Lib.Strings
import Derived.RegionTactic
import Derived.LoopTactic
import Derived.Below
import Derived.IntWalk
import Derived.Deep.QuietTactic
import Derived.BigQuiet
import Derived.Deep.MidRow
import Derived.Maps.AppendAt
import Derived.Laws.Rows
import Derived.Laws.Tables
import Derived.Deep.WholeRow
import Derived.Deep.Cut
import Derived.Deep.CutRange
import Derived.Lib.SliceRun
import Derived.Laws.MakeOwn
import Derived.Deep.RegionLaw
import Derived.Deep.RegionLawGrows
import Derived.Deep.RegionHeld3
import Derived.RegionCalls
import Derived.Deep.RegionWith
import Derived.Deep.Light
import Derived.Laws.CopyOwn
import Derived.Laws.ResultCell
section
/- again: the round, plain -/
namespace Go.Proofs.Ytemkppjdfjoipaa.I1.X
set_option linter.unusedSimpArgs false
set_option linter.unusedVariables false
set_option maxRecDepth 100000
open Go.RowKit
/- again: the round, plain. -/
theorem beg_ex (L : List P3) (pl : Nat) : ∀ (j k : Nat), k + j = L.length → (∀ i, i < k → off L i < pl) → pl ≤ off L L.length → ∃ k', k ≤ k' ∧ k' ≤ L.length ∧ pl ≤ off L k' ∧ ∀ i, i < k' → off L i < pl
  | 0, k, h, ha, hp => ⟨k, Nat.le_refl _, by omega, by rw [show k = L.length by omega]; exact hp, ha⟩
  | j + 1, k, h, ha, hp => by
    by_cases hc : off L k < pl
    · obtain ⟨k', h1, h2⟩ := beg_ex L pl j (k + 1) (by omega) (fun i hi => by
        by_cases e : i = k
        · subst e; exact hc
        · exact ha i (by omega)) hp
      exact ⟨k', by omega, h2⟩
    · exact ⟨k, Nat.le_refl _, by omega, by omega, ha⟩
theorem beg_uniq {L : List P3} {pl k k' : Nat} (h1 : pl ≤ off L k) (h2 : ∀ i, i < k → off L i < pl) (h3 : pl ≤ off L k') (h4 : ∀ i, i < k' → off L i < pl) : k = k' := by
  rcases Nat.lt_trichotomy k k' with h | h | h
  · have := h4 k h; omega
  · exact h
  · have := h2 k' h; omega
theorem off_all (L : List P3) : off L L.length = lens L := by rw [off, List.take_length]
theorem MkS.subI {B : Nat} {w0 : World} {L L' : List It} {vs : List Value} {ms : List Mk} (h : MkS B w0 L vs ms) (hL : ∀ v l, rI v l ∈ L → rI v l ∈ L') : MkS B w0 L' vs ms := ⟨h.1, fun i h1 h2 => (h.2 i h1 h2).imp id (hL _ _)⟩
/-- What one piece more is. -/
structure RdF (d : Df) (kl : List Int) (t : ByteArray) (Ln : List P3) (n at_ rn : Nat) (rk : Int) (rl : Nat) (m m' : Mk) (T E : List Tk) : Prop where
  hn : n < Ln.length
  get : Ln[n] = (rk, rn, rl)
  lt : at_ < t.size
  pc : rwA (pcF (ksL kl) (ofF d (bl (t.extract at_ t.size)))) = #[.int .i64 rk, .int .i64 (rn : Nat), .int .i64 (rl : Nat)]
  one : 1 ≤ rn
  le : at_ + rn ≤ t.size
  rl : rl ≤ 1000000
  st : I1.stQ m (t.extract at_ (at_ + rn)) rk (rn : Nat) = (m', E)
  stf : stepF m (((bl t).drop at_).take rn) rk (rn : Nat) = (m', E)
  may : May m
  may' : May m'
  tl : T.length + E.length ≤ 270000000
theorem bl_sub (t : ByteArray) (a n : Nat) : bl (t.extract a (a + n)) = ((bl t).drop a).take n := by
  unfold bl
  rw [ByteArray.data_extract, Array.toList_extract, List.map_take, List.map_drop, Nat.add_sub_cancel_left]
theorem lead_take {L : List P3} {s : List Nat} (hf : Fit L s) (hs : s.length ≤ 65536) {n : Nat} (hn : n ≤ L.length) : (∀ x ∈ (runM m0 s (L.take n)).M, May x) ∧ May (runM m0 s (L.take n)).m ∧ (runM m0 s (L.take n)).m.lead ≤ (off L n : Nat) := by
  have hl := off_le L n
  have h := runM_may (L.take n) m0 s m0_may ⟨fun r hr => hf.one r (List.mem_of_mem_take hr), by have := hf.le; have e : lens (L.take n) = off L n := rfl; omega⟩ (by simp [m0]; omega)
  refine ⟨h.1, h.2.1, ?_⟩
  have := h.2.2
  have e : lens (L.take n) = off L n := rfl
  rw [e] at this
  simpa [m0] using this
theorem rd_ex {d : Df} {kl : List Int} {t : ByteArray} (hg : Fine d kl t) {n : Nat} (hn : n < (scL d kl t).length) : ∃ at_ rn rk rl m' E, at_ = off (scL d kl t) n ∧ RdF d kl t (scL d kl t) n at_ rn rk rl (runM m0 (bl t) ((scL d kl t).take n)).m m' (runM m0 (bl t) ((scL d kl t).take n)).T E := by
  obtain ⟨g1, g2, g3⟩ := (pcA_drop hg.may (ksL kl) (bl t) n (Nat.le_of_lt hn)).get hg.may hn
  have hsz := hg.sz
  have hlen : off (scL d kl t) (scL d kl t).length = t.size := by
    rw [off_all]
    have e := (pcA_fit hg.may (ksL kl) _ (bl t) (Nat.le_refl _)).2
    rw [bl_len] at e
    exact e
  obtain ⟨⟨rk, rn, rl⟩, hr⟩ : ∃ r, (scL d kl t)[n] = r := ⟨_, rfl⟩
  have h1 : 1 ≤ rn := by have := hg.fit.one _ (List.getElem_mem hn); rw [hr] at this; exact this
  have hs := off_succ hn
  rw [hr] at hs
  have hs : off (scL d kl t) (n + 1) = off (scL d kl t) n + rn := hs
  have h2 := off_le (scL d kl t) (n + 1)
  have h4 : lens (scL d kl t) = t.size := by rw [← off_all]; exact hlen
  have h3 : off (scL d kl t) n + rn ≤ t.size := by omega
  obtain ⟨m1, m2, m3⟩ := lead_take hg.fit (by rw [bl_len]; exact hsz) (n := n) (by omega)
  have hrl : rl ≤ 1000000 := by have := hg.sm.look _ (List.getElem_mem hn); rw [hr] at this; exact this
  obtain ⟨⟨m', E⟩, hst⟩ : ∃ z, stepF (runM m0 (bl t) ((scL d kl t).take n)).m (((bl t).drop (off (scL d kl t) n)).take rn) rk (rn : Nat) = z := ⟨_, rfl⟩
  have hmd : Made (runM m0 (bl t) ((scL d kl t).take n)).m (((bl t).drop (off (scL d kl t) n)).take rn) (rn : Nat) := ⟨by omega, by rw [List.length_take, List.length_drop, bl_len]; omega, by omega⟩
  refine ⟨off (scL d kl t) n, rn, rk, rl, m', E, rfl, ⟨hn, hr, by omega, ?_, h1, h3, hrl, ?_, hst, m2, ?_, ?_⟩⟩
  · rw [bl_drop, ← g1, hr]; rfl
  · unfold I1.stQ
    have hmb : madeB (runM m0 (bl t) ((scL d kl t).take n)).m (t.extract (off (scL d kl t) n) (off (scL d kl t) n + rn)) (rn : Nat) = true := by
      rw [madeB_iff, show I1.bl (t.extract (off (scL d kl t) n) (off (scL d kl t) n + rn)) = _ from bl_sub t _ rn]; exact hmd
    rw [if_pos ⟨may_mayB m2, hmb⟩, show I1.bl (t.extract (off (scL d kl t) n) (off (scL d kl t) n + rn)) = _ from bl_sub t _ rn]; exact hst
  · have := stepF_may m2 hmd (k := rk)
    rw [hst] at this; exact this
  · have e := hg.lens.l4
    have hl : (runM m0 (bl t) ((scL d kl t).take (n + 1))).T.length ≤ (scX d kl t).toks.length := by
      have := congrArg List.length (lx_toks (scL d kl t) (bl t) (n := n + 1) hn).1
      rw [List.length_take] at this
      show _ ≤ (lxM (scL d kl t) (bl t)).toks.length
      omega
    rw [run_succ _ _ hn, hr] at hl
    simp only [] at hl
    rw [hst, List.length_append] at hl
    exact Nat.le_trans hl e
theorem agi_sh {B : Nat} {w wr : World} {b5 b6 b10 b11 b13 : Nat} {vE : Array Value} {tv : Value} {Lo Ls : List P3} {a b : List Nat} {en be k n k2 : Nat} {o1 o2 o3 o4 : Bool} {v1 v2 v3 v4 v' : Value} {vs : List Value} {q q9 : Option Addr} {f f9 : Nat} {Y Y' : List It} {R : Rn} {m' : Mk}
    (h : AgI B w b5 b6 b10 b11 b13 vE tv Lo Ls a b en be k n k2 o1 o2 o3 o4 v1 v2 v3 v4 vs q f Y wr) (hR : runM m0 b (Ls.take n) = R) (he : shV R.m m' (.slice q R.m.cols.length f) v' = .slice q9 m'.cols.length f9) (hv : rI v' m'.cols ∈ Y') (hY : ∀ x ∈ Y, x ∈ Y') :
    IV (fun g => g < B) w m'.cols (.slice q9 m'.cols.length f9) ∨ rI (.slice q9 m'.cols.length f9) m'.cols ∈ Y' := by
  have hm := h.mm
  rw [hR] at hm
  unfold shV at he
  split at he
  · next e =>
    rw [← he, ← e]
    exact hm.imp id (hY _)
  · rw [← he]; exact .inr hv
theorem agi_step {B : Nat} {w wr w' : World} {b5 b6 b10 b11 b13 : Nat} {vE : Array Value} {tv : Value} {d : Df} {kl : List Int} {t : ByteArray} {Lo Ln : List P3} {a : List Nat} {en be k n k2 k3 at_ rn rl : Nat} {rk : Int} {m' : Mk} {E : List Tk} {o1 o2 o3 o4 u4 : Bool} {v1 v2 v3 v4 x1 x2 x3 x4 : Value} {vs : List Value} {q q' : Option Addr} {f f' : Nat} {Y Y' : List It} {R : Rn}
    (h : AgI B w b5 b6 b10 b11 b13 vE tv Lo Ln a (bl t) en be k n k2 o1 o2 o3 o4 v1 v2 v3 v4 vs q f Y wr) (hR : runM m0 (bl t) (Ln.take n) = R) (hr : RdF d kl t Ln n at_ rn rk rl R.m m' R.T E) (hat : at_ = off Ln n)
    (hk : k2 ≤ k3) (hkl : k3 ≤ Lo.length) (hbef : ∀ j, j < k3 → off Lo j < en + (off Ln n - be)) (hnb : ∀ j, ¬ Back Lo Ln a (bl t) en be n j)
    (hY : ∀ x ∈ Y, x ∈ Y') (hmm : IV (fun g => g < B) w m'.cols (.slice q' m'.cols.length f') ∨ rI (.slice q' m'.cols.length f') m'.cols ∈ Y')
    (h4 : Fr B w u4 x4 3 (R.T.length + E.length) (tkL R.T ++ tkL E))
    (hsp : Sep B w w' (fr true x1 38 3 ((Ln.take n).length + 1) (rwL ((Ln.take n).map tR) ++ [.int .i64 rk, .int .i64 (rn : Nat), .int .i64 (rl : Nat)]) :: fr true x2 36 5 ((m0 :: R.M).length + 1) (mkL vs (m0 :: R.M) ++ [.slice q' m'.cols.length f', .int .i64 m'.opn, .int .i64 m'.col, .bool m'.fresh, .int .i64 m'.lead]) :: fr true x3 3 1 (((0 : Int) :: R.C).length + 1) (zi (0 :: R.C) ++ [.int .i64 ((R.T.length + E.length : Nat) : Int)]) :: fr u4 x4 40 3 (R.T.length + E.length) (tkL R.T ++ tkL E) :: bxT b13 tv k3 (off Lo k3) :: .box b11 (.cells #[.slice q' m'.cols.length f', .int .i64 m'.opn, .int .i64 m'.col, .bool m'.fresh, .int .i64 m'.lead] 36 (0, 0)) :: bxL b10 #[x1, x2, x3, x4] :: bxL b6 zL :: .box b5 (.cells vE 45 (0, 0)) :: Y')) :
    off Ln (n + 1) = at_ + rn ∧ AgI B w b5 b6 b10 b11 b13 vE tv Lo Ln a (bl t) en be k (n + 1) k3 true true true u4 x1 x2 x3 x4 (vs ++ [.slice q' m'.cols.length f']) q' f' Y' w' := by
  have hst := hr.stf
  have ho := off_succ hr.hn
  rw [hr.get] at ho
  subst hat
  have hvs := h.mks.1
  rw [hR] at hvs
  have e1 : rwL ((Ln.take n).map tR) ++ [.int .i64 rk, .int .i64 (rn : Nat), .int .i64 (rl : Nat)] = rwL ((Ln.take n ++ [Ln[n]'hr.hn]).map tR) := by
    rw [List.map_append, hr.get]
    simp [rwL, rwC, tR]
  have e2 : mkL vs (m0 :: R.M) ++ [.slice q' m'.cols.length f', .int .i64 m'.opn, .int .i64 m'.col, .bool m'.fresh, .int .i64 m'.lead] = mkL (vs ++ [.slice q' m'.cols.length f']) ((m0 :: R.M) ++ [m']) := by
    rw [mkL_app hvs]; rfl
  have e3 : zi (0 :: R.C) ++ [.int .i64 ((R.T.length + E.length : Nat) : Int)] = zi ((0 :: R.C) ++ [((R.T ++ E).length : Int)]) := by
    simp [zi]
  have e4 : tkL R.T ++ tkL E = tkL (R.T ++ E) := (tkL_app _ _).symm
  have n1 : (Ln.take n).length + 1 = (Ln.take n ++ [Ln[n]'hr.hn]).length := by rw [List.length_append]; rfl
  have n2 : (m0 :: R.M).length + 1 = ((m0 :: R.M) ++ [m']).length := by simp
  have n3 : ((0 : Int) :: R.C).length + 1 = ((0 :: R.C) ++ [((R.T ++ E).length : Int)]).length := by simp
  have n4 : R.T.length + E.length = (R.T ++ E).length := by simp
  rw [e1, e2, e3, e4, n1, n2, n3, n4] at hsp
  rw [e4, n4] at h4
  have hmk := h.mks
  rw [hR] at hmk
  refine ⟨ho, agi_next h hr.hn hR (S := (m', E)) (by rw [hr.get]; exact hst) hk hkl hbef hnb ⟨Fr.own hsp, Fr.own hsp.tl, Fr.own hsp.tl.tl, h4⟩ ((hmk.sub hY).app (MkS.one (hmm.imp (fun hi => ⟨q', f', rfl, hi⟩) id))) hmm hsp⟩
/-- What it answers where old pieces come back. -/
theorem agi_back3 {B : Nat} {w wr w' : World} {b5 b6 b10 b11 b13 : Nat} {vE : Array Value} {tv : Value} {d : Df} {kl : List Int} {s t : ByteArray} {st en nw k n k2 k3 told : Nat} {o1 o2 o3 o4 : Bool} {v1 v2 v3 v4 : Value} {vs : List Value} {q : Option Addr} {f : Nat} {Y Z : List It} {e : Ending} (hd : MayD d) (he : Ed1 (bl s) (bl t) st en nw) (h : AgI B w b5 b6 b10 b11 b13 vE tv (scL d kl s) (scL d kl t) (bl s) (bl t) en (st + nw) k n k2 o1 o2 o3 o4 v1 v2 v3 v4 vs q f Y wr) (hk : Kept (scL d kl s) st k)
    (hb : Back (scL d kl s) (scL d kl t) (bl s) (bl t) en (st + nw) n k3) (ht : (scX d kl s).counts[k3]? = some (told : Int))
    (hj : JnP B w Z ((scL d kl t).take n) vs (m0 :: (runM m0 (bl t) ((scL d kl t).take n)).M) (0 :: (runM m0 (bl t) ((scL d kl t).take n)).C) (runM m0 (bl t) ((scL d kl t).take n)).T (scL d kl s) (scX d kl s) k3 told e w') :
    ∃ u1 u2 u3 u4 vs2, e = .returned (.agg #[u1, u2, u3, u4]) ∧ XS B w true true true true u1 u2 u3 u4 (scL d kl t) vs2 (scX d kl t).marks (scX d kl t).counts (scX d kl t).toks ∧ MkS B w Z vs2 (scX d kl t).marks ∧ Sep B w w' (xI true true true true u1 u2 u3 u4 (scL d kl t) vs2 (scX d kl t).marks (scX d kl t).counts (scX d kl t).toks Z) ∧ Cnt (scL d kl s) (scL d kl t) (bl s) (bl t) st en (st + nw) ((n : Int) - (k : Int)) := by
  obtain ⟨u1, u2, u3, u4, vsO, rfl, hx, hm, hs⟩ := hj
  obtain ⟨r1, r2⟩ := back_lx hd he hb
  have ht2 := lx_count (scL d kl s) (bl s) (n := k3) (by have := hb.hk; omega)
  rw [show (scX d kl s).counts[k3]? = _ from ht2] at ht
  have ht : (runM m0 (bl s) ((scL d kl s).take k3)).T.length = told := by injection ht with e; omega
  subst ht
  have e2 : scX d kl t = _ := r2
  rw [show (scL d kl t).take n ++ (scL d kl s).drop k3 = scL d kl t from r1.symm] at hx hs
  refine ⟨u1, u2, u3, u4, vs ++ vsO, rfl, ?_, ?_, ?_, ⟨k, n, hk, h.kn, rfl, h.nb, .inr ⟨k3, hb⟩⟩⟩
  · rw [e2]; exact hx
  · rw [e2]; exact hm
  · rw [e2]; exact hs
theorem lx_cb (L : List P3) (s : List Nat) : ∀ c ∈ (lxM L s).counts, 0 ≤ c ∧ c ≤ ((lxM L s).toks.length : Int) := by
  intro c hc
  obtain ⟨i, hi, rfl⟩ := List.getElem_of_mem hc
  have hl : i ≤ L.length := by have := (lx_len L s).2; omega
  have h1 := lx_count L s hl
  rw [List.getElem?_eq_getElem hi] at h1
  injection h1 with h1
  have h2 := congrArg List.length (lx_toks L s hl).1
  rw [List.length_take] at h2
  rw [h1]; omega
theorem lx_ct (L : List P3) (s : List Nat) {n : Nat} (hn : n < L.length) : (runM m0 s (L.take n)).T.length < (lxM L s).toks.length := by
  have h2 := lx_split L s n
  have h3 : (lxM L s).toks.length = ((runM m0 s (L.take n)).T ++ ((runM (runM m0 s (L.take n)).m (s.drop (off L n)) (L.drop n)).T ++ endF (runM (runM m0 s (L.take n)).m (s.drop (off L n)) (L.drop n)).m)).length := by rw [h2]
  have h4 := endF_pos (runM (runM m0 s (L.take n)).m (s.drop (off L n)) (L.drop n)).m
  rw [List.length_append, List.length_append] at h3
  omega
theorem agi_iv {B : Nat} {w wr : World} {b5 b6 b10 b11 b13 : Nat} {vE : Array Value} {tv : Value} {Lo Ls : List P3} {a b : List Nat} {en be k n k2 : Nat} {o1 o2 o3 o4 : Bool} {v1 v2 v3 v4 : Value} {vs : List Value} {q : Option Addr} {f : Nat} {Y : List It} {R : Rn}
    (h : AgI B w b5 b6 b10 b11 b13 vE tv Lo Ls a b en be k n k2 o1 o2 o3 o4 v1 v2 v3 v4 vs q f Y wr) (hR : runM m0 b (Ls.take n) = R) (z : World) (X : List It) (hs : Sep B w z X) (hY : ∀ x ∈ Y, x ∈ X) : IV (fun g => g < z.heap.size) z R.m.cols (.slice q R.m.cols.length f) := by
  subst hR
  rcases h.mm with h | h
  · exact h.mono (fun g (hg : g < B) => Nat.lt_of_lt_of_le hg hs.sz) (fun g (hg : g < B) _ => hs.bel.block g hg)
  · have hr : It.lies B z (rI (.slice q (runM m0 b (Ls.take n)).m.cols.length f) (runM m0 b (Ls.take n)).m.cols) := hs.li _ (hY _ h)
    exact (own_iv hr).mono (fun g hg => hg.2.1) (fun _ _ _ => rfl)
theorem wpList_append_fr0 {B : Nat} {w0 w : World} {own : Bool} {v : Value} {e : TypeId} {size n : Nat} {xs : List Value} {L : List It} {ops : Array Oper} {rest : List Oper} {o : Oper} {a : Act} {Q : Exit → Act → World → Prop}
    (hg : o.guard = none) (s x : Operand) (t : TypeId) (hop : o.op = Op.call { callee := Callee.builtin Builtin.append, args := #[s, x], argTypes := #[t, t] })
    (i : TypeInfo) (ht : Try.prog.underlying t = some (.slice e)) (hi : Try.prog.info? e = some i)
    (hf : Fr B w0 own v size n xs) (hs : Sep B w0 w (fr own v e size n xs :: L)) (hv : a.eval s = v) (q : Option Addr) (c : Nat) (hx : a.eval x = .slice q 0 c)
    (h : wpList Try.prog ops Q rest (a.put o.dst v) w) :
    wpList Try.prog ops Q (o :: rest) a w := by
  refine wpList_plain hg fun K hK => ?_
  have hr := run_append_fr0 t o.type i ht hi hf hs q c
  unfold Oper.wp execOp
  simp only [hop, resolve, invoke, builtin, Sem.run_bind, Sem.run_pure, Result.andThen_ok, List.map_toArray, List.map_cons, List.map_nil, hv, hx, hr]
  exact hK _ _ h
end Go.Proofs.Ytemkppjdfjoipaa.I1.X
end
section
/- Package relex. -/
namespace Go.Proofs.Ytemkppjdfjoipaa.I1.X
set_option linter.unusedSimpArgs false
set_option linter.unusedVariables false
set_option maxRecDepth 100000
open Go.RowKit
/- Marks' cells in a row; strings.Clone; a scan built. -/
theorem mk_cells {B g cap n : Nat} {w0 w : World} {vs : List Value} {ms : List Mk} {L : List It} (h : vs.length = ms.length) (hs : Sep B w0 w (.row (.slice (some ⟨g, 0, none⟩) n cap) 36 5 n (mkL vs ms) :: L)) {j : Nat} (hj : j < ms.length) {q : Option Addr} {k f : Nat} (hv : vs[j]'(by omega) = .slice q k f) {m : Mk} (hm : ms[j] = m) :
    w.cell? ⟨g, j * 5, none⟩ = some (.slice q k f) ∧ w.cell? ⟨g, j * 5 + 1, none⟩ = some (.int .i64 m.opn) ∧ w.cell? ⟨g, j * 5 + 2, none⟩ = some (.int .i64 m.col) ∧ w.cell? ⟨g, j * 5 + 3, none⟩ = some (.bool m.fresh) ∧ w.cell? ⟨g, j * 5 + 4, none⟩ = some (.int .i64 m.lead) ∧
    w.frozen? ⟨g, j * 5, none⟩ = false ∧ w.frozen? ⟨g, j * 5 + 1, none⟩ = false ∧ w.frozen? ⟨g, j * 5 + 2, none⟩ = false ∧ w.frozen? ⟨g, j * 5 + 3, none⟩ = false ∧ w.frozen? ⟨g, j * 5 + 4, none⟩ = false := by
  subst hm
  have hl := mkL_len h
  have g0 := fun r (hr : r < 5) => mkL_get h j hj r hr
  have r0 := fun r (hr : r < 5) => Sep.rowset hs (j := j * 5 + r) (by rw [hl]; omega) (.bool true)
  have c := fun r hr => ((r0 r hr).1.trans (g0 r hr))
  simp only [hv] at c
  exact ⟨c 0 (by omega), c 1 (by omega), c 2 (by omega), c 3 (by omega), c 4 (by omega), (r0 0 (by omega)).2.1, (r0 1 (by omega)).2.1, (r0 2 (by omega)).2.1, (r0 3 (by omega)).2.1, (r0 4 (by omega)).2.1⟩
theorem mk_put {B g cap n : Nat} {w0 w : World} {vs : List Value} {ms : List Mk} {L : List It} (h : vs.length = ms.length) (hs : Sep B w0 w (.row (.slice (some ⟨g, 0, none⟩) n cap) 36 5 n (mkL vs ms) :: L)) {j : Nat} (hj : j < ms.length) (q : Option Addr) (k f : Nat) {m : Mk} (hm : ms[j] = m) :
    Sep B w0 (((((w.setCell ⟨g, j * 5, none⟩ (.slice q k f)).setCell ⟨g, j * 5 + 1, none⟩ (.int .i64 m.opn)).setCell ⟨g, j * 5 + 2, none⟩ (.int .i64 m.col)).setCell ⟨g, j * 5 + 3, none⟩ (.bool m.fresh)).setCell ⟨g, j * 5 + 4, none⟩ (.int .i64 m.lead)) (.row (.slice (some ⟨g, 0, none⟩) n cap) 36 5 n (mkL (vs.set j (.slice q k f)) ms) :: L) := by
  subst hm
  have hl := mkL_len h
  have h0 := (Sep.rowset hs (j := j * 5) (by rw [hl]; omega) (.slice q k f)).2.2
  have h1 := (Sep.rowset h0 (j := j * 5 + 1) (by rw [List.length_set, hl]; omega) (.int .i64 (ms[j]).opn)).2.2
  have h2 := (Sep.rowset h1 (j := j * 5 + 2) (by rw [List.length_set, List.length_set, hl]; omega) (.int .i64 (ms[j]).col)).2.2
  have h3 := (Sep.rowset h2 (j := j * 5 + 3) (by rw [List.length_set, List.length_set, List.length_set, hl]; omega) (.bool (ms[j]).fresh)).2.2
  have h4 := (Sep.rowset h3 (j := j * 5 + 4) (by rw [List.length_set, List.length_set, List.length_set, List.length_set, hl]; omega) (.int .i64 (ms[j]).lead)).2.2
  rw [mkL_put h hj q k f] at h4
  exact h4
theorem shV_slice (m n : Mk) (p p' : Option Addr) (c c' : Nat) : ∃ q f, shV m n (.slice p m.cols.length c) (.slice p' n.cols.length c') = .slice q n.cols.length f := by
  unfold shV
  split
  · exact ⟨p, c, by simp_all⟩
  · exact ⟨p', c', rfl⟩
theorem clone49 (s : ByteArray) (w : World) (hlim : s.size ≤ 281474976710656) : Calls Try.prog 49 #[.string s] w fun e w' => e = .returned (.string s) ∧ Below w.heap.size w w' := by
  have HC := Lib.hid fun y => Try.stringslite_Clone s y hlim
  go_enter Try.func49, Try.ntmps49
  go_wp2_with fail
  refine (HC.out _).mono ?_
  rintro _ w1 ⟨rfl, hb⟩
  go_wp2_with fail
  go_ret
  exact ⟨rfl, by simpa using hb⟩
theorem built49 (a : Option Addr) (p1 p2 p3 p4 : Option Addr) (n1 n2 n3 n4 c1 c2 c3 c4 : Nat) (s : ByteArray) : Try.prog.built 49 [(0, .pointer a), (1, .string s), (2, .agg #[.slice p1 n1 c1, .slice p2 n2 c2, .slice p3 n3 c3, .slice p4 n4 c4])] = some #[.pointer a, .string s, .slice p1 n1 c1, .slice p2 n2 c2, .slice p3 n3 c3, .slice p4 n4 c4] := by kernel_rfl
theorem colsI_mk {vs : List Value} {ms : List Mk} (h : vs.length = ms.length) {B : Nat} {w0 : World} {L : List It} : MkS B w0 (colsI vs ms ++ L) vs ms := by
  refine ⟨h, fun i h1 h2 => .inr (List.mem_append_left _ ?_)⟩
  have hl : i < (colsI vs ms).length := by unfold colsI; rw [List.length_zipWith]; omega
  have : (colsI vs ms)[i] = rI vs[i] ms[i].cols := by simp [colsI]
  rw [← this]; exact List.getElem_mem hl
end Go.Proofs.Ytemkppjdfjoipaa.I1.X
end
