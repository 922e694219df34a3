/- Package grams. -/
import Derived.Test.YtpmkdpjcpimhkaaGc
import Derived.Deep.SlicePairs
import Derived.Deep.Slices
import Derived.Laws.IdiomArrays
import Derived.OpenShut
import Derived.WideBlind
import Derived.Great.BuildSlice
import Derived.WalkKit
import Derived.Maps.OwnSet
import Derived.Maps.OwnOps
import Derived.Maps.Own
import Derived.DeepKeys5
import Derived.BigFrame
import Derived.WalkMore
import Derived.ScopeJumps
import Derived.StillTailTactics
import Derived.Stop.BytesEq
import Derived.WalkLawsBesides
import Derived.WalkSpells
import Derived.Outline
import Derived.Lib.Walk
import Derived.Lib.Hide
import Derived.Lib.Slices
import Derived.Lib.Strings
import Derived.RegionTactic
import Derived.LoopTactic
import Derived.Below
import Derived.IntWalk
import Derived.Deep.QuietTactic
import Derived.BigQuiet
import Derived.Deep.MidRow
import Derived.Maps.AppendAt
import Derived.Laws.Rows
import Derived.Laws.Tables
import Derived.Deep.WholeRow
import Derived.Deep.Cut
import Derived.Deep.CutRange
import Derived.Lib.SliceRun
import Derived.Laws.MakeOwn
import Derived.Deep.RegionLaw
import Derived.Deep.RegionLawGrows
import Derived.Deep.RegionHeld3
import Derived.RegionCalls
import Derived.Deep.RegionWith
import Derived.Deep.Light
import Derived.Laws.CopyOwn
import Derived.Laws.ResultCell
namespace Go.Proofs.Ytpmkdpjcpimhkaa
set_option linter.unusedSimpArgs false
set_option linter.unusedVariables false
set_option maxRecDepth 100000
open Go.RowKit
/- begins, follows, goesRound: what their tables are. -/
theorem ex_cons {α : Type} {a : α} {l : List α} {P : α → Prop} : (∃ x, x ∈ a :: l ∧ P x) ↔ P a ∨ ∃ x, x ∈ l ∧ P x := by
  constructor
  · rintro ⟨x, hx, h⟩
    rcases List.mem_cons.1 hx with rfl | hx
    · exact .inl h
    · exact .inr ⟨x, hx, h⟩
  · rintro (h | ⟨x, hx, h⟩)
    · exact ⟨a, List.mem_cons_self .., h⟩
    · exact ⟨x, List.mem_cons_of_mem _ hx, h⟩
theorem last_eq {l : List Int} (h : l ≠ []) : l = l.dropLast ++ [l.getLastD 0] := by
  have e := List.dropLast_concat_getLast h
  cases l with
  | nil => exact absurd rfl h
  | cons a l =>
    have e2 : (a :: l).getLastD 0 = (a :: l).getLast h := by rw [List.getLastD_cons, List.getLast_eq_getLastD]
    rw [e2, e]
def z64 : List Nat := List.replicate 64 0
theorem z64_get (s : Nat) : z64.getD s 0 = 0 := by
  unfold z64
  rw [List.getD_eq_getElem?_getD, List.getElem?_replicate]
  split <;> rfl
theorem z64_ok : TbOk z64 := ⟨by unfold z64; rw [List.length_replicate], fun s => by rw [z64_get]; decide⟩
def begT0 (n : Nat) : List Nat := (List.range 64).map fun s => if s < n then 2 ^ s else 0
theorem begT0_len (n : Nat) : (begT0 n).length = 64 := by unfold begT0; rw [List.length_map, List.length_range]
theorem begT0_get (n : Nat) {s : Nat} (h : s < 64) : (begT0 n).getD s 0 = if s < n then 2 ^ s else 0 := getD_rng (fun s => if s < n then 2 ^ s else 0) h
theorem begT0_zero : begT0 0 = z64 := by
  unfold begT0 z64
  apply List.ext_getElem
  · rw [List.length_map, List.length_range, List.length_replicate]
  · intro i h1 h2
    rw [List.getElem_map, List.getElem_replicate, List.getElem_range, if_neg (by omega)]
theorem begT0_succ {n : Nat} (h : n < 64) : (begT0 n).set n (2 ^ n) = begT0 (n + 1) := by
  apply List.ext_getElem
  · rw [List.length_set, begT0_len, begT0_len]
  · intro i h1 h2
    rw [List.getElem_set]
    have g1 : ∀ (k : Nat) (h : i < (begT0 k).length), (begT0 k)[i] = if i < k then 2 ^ i else 0 := fun k h => by
      have e1 := begT0_get k (s := i) (by rw [← begT0_len k]; exact h)
      rwa [List.getD_eq_getElem?_getD, List.getElem?_eq_getElem h, Option.getD_some] at e1
    rw [g1, g1]
    by_cases e : n = i
    · subst e; rw [if_pos rfl, if_pos (by omega)]
    · rw [if_neg e]
      by_cases e2 : i < n
      · rw [if_pos e2, if_pos (by omega)]
      · rw [if_neg e2, if_neg (by omega)]
theorem begT0_ok {n : Nat} (h : n ≤ 64) : TbOk (begT0 n) := ⟨begT0_len n, fun s => by
  by_cases hs : s < 64
  · rw [begT0_get n hs]
    split
    · exact w_pow hs
    · decide
  · rw [List.getD_eq_getElem?_getD, List.getElem?_eq_none (by rw [begT0_len]; omega)]; decide⟩
def begWs (ps : List Pr) : List Way := ps.map fun p => (p.bd.headD 0, p.hd)
def rndT : List Pr → List Nat → List Nat
  | [], T => T
  | p :: l, T => rndT l (if p.bd.length = 1 then up1 T p.hd.toNat (2 ^ (p.bd.headD 0).toNat) else T)
def rndWs (ps : List Pr) : List Way := (ps.filter fun p => p.bd.length = 1).map fun p => (p.bd.headD 0, p.hd)
def folRow (first : List Nat) : List Int → List Nat → List Nat
  | a :: b :: l, T => folRow first (b :: l) (up1 T a.toNat (first.getD b.toNat 0))
  | _, T => T
def folT (first : List Nat) : List Pr → List Nat → List Nat
  | [], T => T
  | p :: l, T => folT first l (folRow first p.bd T)
def folWs (ps : List Pr) : List Way := ps.map fun p => (p.hd, p.bd.getLastD 0)
theorem hd_mem {l : List Int} (h : l ≠ []) : l.headD 0 ∈ l := by
  cases l with
  | nil => exact absurd rfl h
  | cons a l => simp
theorem last_mem {l : List Int} (h : l ≠ []) : l.getLastD 0 ∈ l := by
  have e := last_eq h
  have : l.getLastD 0 ∈ l.dropLast ++ [l.getLastD 0] := by simp
  rwa [← e] at this
theorem begWs_ok {g : Gr} (hg : NumOk g) (hne : ∀ p ∈ g.ps, p.bd ≠ []) : WsOk (begWs g.ps) := fun w hw => by
  obtain ⟨p, hp, rfl⟩ := List.mem_map.1 hw
  have h1 := hg.bd p hp _ (hd_mem (hne p hp))
  have h2 := hg.hd p hp
  have h3 := hg.t1
  have h4 := hg.s2
  exact ⟨h1.1, by omega, by show 0 ≤ p.hd; omega, by show p.hd < 64; omega⟩
theorem folWs_ok {g : Gr} (hg : NumOk g) (hne : ∀ p ∈ g.ps, p.bd ≠ []) : WsOk (folWs g.ps) := fun w hw => by
  obtain ⟨p, hp, rfl⟩ := List.mem_map.1 hw
  have h1 := hg.bd p hp _ (last_mem (hne p hp))
  have h2 := hg.hd p hp
  have h3 := hg.t1
  have h4 := hg.s2
  exact ⟨by show 0 ≤ p.hd; omega, by show p.hd < 64; omega, h1.1, by show p.bd.getLastD 0 < 64; omega⟩
theorem one_ne {l : List Int} (h : l.length = 1) : l = [l.headD 0] := by
  match l, h with
  | [a], _ => rfl
theorem rndWs_ok {g : Gr} (hg : NumOk g) : WsOk (rndWs g.ps) := fun w hw => by
  obtain ⟨p, hp, rfl⟩ := List.mem_map.1 hw
  obtain ⟨hp, hl⟩ := List.mem_filter.1 hp
  have hl : p.bd.length = 1 := by simpa using hl
  have h1 := hg.bd p hp _ (hd_mem (by intro e; rw [e] at hl; simp at hl))
  have h2 := hg.hd p hp
  have h3 := hg.t1
  have h4 := hg.s2
  exact ⟨h1.1, by omega, by show 0 ≤ p.hd; omega, by show p.hd < 64; omega⟩
theorem beg_sem {g : Gr} (hg : NumOk g) (hne : ∀ p ∈ g.ps, p.bd ≠ []) (s x : Nat) : Lead (begWs g.ps) (begT0 g.t.toNat) s x ↔ Beg g s x := by
  have h1 := hg.t1
  have h2 := hg.t2
  constructor
  · intro h
    induction h with
    | @base s x hb =>
      by_cases hs : s < 64
      · rw [begT0_get _ hs] at hb
        split at hb
        · rw [Nat.testBit_two_pow] at hb
          have e : s = x := by simpa using hb
          subst e
          exact .tm (by omega) (by omega)
        · simp at hb
      · rw [List.getD_eq_getElem?_getD, List.getElem?_eq_none (by rw [begT0_len]; omega)] at hb; simp at hb
    | @go w x hw h ih =>
      obtain ⟨p, hp, rfl⟩ := List.mem_map.1 hw
      have h3 := hg.hd p hp
      have h4 := hg.bd p hp _ (hd_mem (hne p hp))
      simp only at ih ⊢
      rw [Int.toNat_of_nonneg h4.1] at ih
      rw [Int.toNat_of_nonneg (by omega)]
      obtain ⟨y, l, e⟩ : ∃ y l, p.bd = y :: l := by
        cases hl : p.bd with
        | nil => exact absurd hl (hne p hp)
        | cons a l => exact ⟨a, l, rfl⟩
      rw [e] at ih
      exact .go hp e ih
  · intro h
    obtain ⟨s', hs'⟩ : ∃ z : Int, (s : Int) = z := ⟨_, rfl⟩
    obtain ⟨x', hx'⟩ : ∃ z : Int, (x : Int) = z := ⟨_, rfl⟩
    rw [hs', hx'] at h
    have hh : Lead (begWs g.ps) (begT0 g.t.toNat) s'.toNat x'.toNat := by
      clear hs' hx'
      induction h with
      | @tm z h3 h4 =>
        refine .base ?_
        rw [begT0_get _ (by omega), if_pos (by omega), Nat.testBit_two_pow]; simp
      | @go p y z l hp e hb ih =>
        have : (p.bd.headD 0, p.hd) ∈ begWs g.ps := List.mem_map.2 ⟨p, hp, rfl⟩
        refine Lead.go (w := (p.bd.headD 0, p.hd)) this ?_
        rw [e]; exact ih
    rw [← hs', ← hx'] at hh
    simpa using hh
theorem rndT_ok : ∀ (l : List Pr) (T : List Nat), (∀ p ∈ l, p.bd.length = 1 → (p.bd.headD 0).toNat < 64) → TbOk T → TbOk (rndT l T)
  | [], T, _, h => h
  | p :: l, T, hl, h => by
    rw [rndT]
    refine rndT_ok l _ (fun q hq => hl q (List.mem_cons_of_mem _ hq)) ?_
    split
    · rename_i e; exact up1_ok h (w_pow (hl p (List.mem_cons_self ..) e))
    · exact h
theorem rndT_bit : ∀ (l : List Pr) (T : List Nat), T.length = 64 → (∀ p ∈ l, p.hd.toNat < 64) → ∀ s x, ((rndT l T).getD s 0).testBit x = true ↔ (T.getD s 0).testBit x = true ∨ ∃ p ∈ l, p.bd.length = 1 ∧ s = p.hd.toNat ∧ x = (p.bd.headD 0).toNat
  | [], T, _, _, s, x => by simp [rndT]
  | p :: l, T, hl, hp, s, x => by
    rw [rndT]
    have hp0 := hp p (List.mem_cons_self ..)
    have hpl : ∀ q ∈ l, q.hd.toNat < 64 := fun q hq => hp q (List.mem_cons_of_mem _ hq)
    by_cases e : p.bd.length = 1
    · rw [if_pos e, rndT_bit l _ ((up1_len _ _ _).trans hl) hpl, up1_bit _ _ _ _ _ (by omega), Nat.testBit_two_pow, or_assoc]
      refine or_congr Iff.rfl ?_
      rw [ex_cons]
      refine or_congr ?_ Iff.rfl
      simp only [decide_eq_true_eq]
      exact ⟨fun h => ⟨e, h.1, h.2.symm⟩, fun h => ⟨h.2.1, h.2.2.symm⟩⟩
    · rw [if_neg e, rndT_bit l _ hl hpl]
      refine or_congr Iff.rfl ?_
      rw [ex_cons]
      exact ⟨.inr, fun h => h.elim (fun h => absurd h.1 e) id⟩
theorem rnd_sem {g : Gr} (hg : NumOk g) (s x : Nat) : Lead (rndWs g.ps) (rndT g.ps z64) s x ↔ Rnd g s x := by
  have h1 := hg.t1
  have h2 := hg.s2
  have hhd : ∀ p ∈ g.ps, p.hd.toNat < 64 := fun p hp => by have := hg.hd p hp; omega
  constructor
  · intro h
    induction h with
    | @base s x hb =>
      rw [rndT_bit _ _ z64_ok.ln hhd, z64_get] at hb
      rcases hb with hb | ⟨p, hp, hl, rfl, rfl⟩
      · simp at hb
      · have h3 := hg.hd p hp
        have e := one_ne hl
        have h4 := hg.bd p hp (p.bd.headD 0) (hd_mem (by intro e; rw [e] at hl; simp at hl))
        rw [Int.toNat_of_nonneg (by omega), Int.toNat_of_nonneg h4.1]
        exact .one hp e
    | @go w x hw h ih =>
      obtain ⟨p, hp, rfl⟩ := List.mem_map.1 hw
      obtain ⟨hp, hl⟩ := List.mem_filter.1 hp
      have hl : p.bd.length = 1 := by simpa using hl
      have e := one_ne hl
      have h3 := hg.hd p hp
      have h4 := hg.bd p hp (p.bd.headD 0) (hd_mem (by intro e; rw [e] at hl; simp at hl))
      simp only at ih ⊢
      rw [Int.toNat_of_nonneg h4.1] at ih
      rw [Int.toNat_of_nonneg (by omega)]
      exact .go hp e ih
  · intro h
    obtain ⟨s', hs'⟩ : ∃ z : Int, (s : Int) = z := ⟨_, rfl⟩
    obtain ⟨x', hx'⟩ : ∃ z : Int, (x : Int) = z := ⟨_, rfl⟩
    rw [hs', hx'] at h
    have hh : Lead (rndWs g.ps) (rndT g.ps z64) s'.toNat x'.toNat := by
      clear hs' hx'
      induction h with
      | @one p b hp e =>
        refine .base ?_
        rw [rndT_bit _ _ z64_ok.ln hhd]
        exact .inr ⟨p, hp, by rw [e]; rfl, rfl, by rw [e]; rfl⟩
      | @go p c b hp e hb ih =>
        refine Lead.go (w := (p.bd.headD 0, p.hd)) (List.mem_map.2 ⟨p, List.mem_filter.2 ⟨hp, by rw [e]; rfl⟩, rfl⟩) ?_
        rw [e]; exact ih
    rw [← hs', ← hx'] at hh
    simpa using hh
theorem folRow_len (first : List Nat) : ∀ (l : List Int) (T : List Nat), (folRow first l T).length = T.length
  | [], T => rfl
  | [a], T => rfl
  | a :: b :: l, T => by rw [folRow, folRow_len first (b :: l), up1_len]
theorem folRow_ok (first : List Nat) (hf : TbOk first) : ∀ (l : List Int) (T : List Nat), TbOk T → TbOk (folRow first l T)
  | [], T, h => h
  | [a], T, h => h
  | a :: b :: l, T, h => by rw [folRow]; exact folRow_ok first hf (b :: l) _ (up1_ok h (hf.lt _))
theorem folT_ok (first : List Nat) (hf : TbOk first) : ∀ (l : List Pr) (T : List Nat), TbOk T → TbOk (folT first l T)
  | [], T, h => h
  | p :: l, T, h => by rw [folT]; exact folT_ok first hf l _ (folRow_ok first hf _ _ h)
theorem folRow_bit (first : List Nat) : ∀ (l : List Int) (T : List Nat), T.length = 64 → (∀ x ∈ l, x.toNat < 64) → ∀ s x, ((folRow first l T).getD s 0).testBit x = true ↔ (T.getD s 0).testBit x = true ∨ ∃ l1 a b l2, l = l1 ++ a :: b :: l2 ∧ s = a.toNat ∧ (first.getD b.toNat 0).testBit x = true
  | [], T, _, _, s, x => by
    constructor
    · exact .inl
    · rintro (h | ⟨l1, a, b, l2, e, _⟩)
      · exact h
      · simp at e
  | [c], T, _, _, s, x => by
    constructor
    · exact .inl
    · rintro (h | ⟨l1, a, b, l2, e, _⟩)
      · exact h
      · have := congrArg List.length e
        simp at this; omega
  | c :: d :: l, T, hl, hx, s, x => by
    rw [folRow, folRow_bit first (d :: l) _ ((up1_len _ _ _).trans hl) (fun y hy => hx y (List.mem_cons_of_mem _ hy)), up1_bit _ _ _ _ _ (by rw [hl]; exact hx c (List.mem_cons_self ..)), or_assoc]
    refine or_congr Iff.rfl ?_
    constructor
    · rintro (⟨h1, h2⟩ | ⟨l1, a, b, l2, e, h1, h2⟩)
      · exact ⟨[], c, d, l, rfl, h1, h2⟩
      · exact ⟨c :: l1, a, b, l2, by rw [e]; rfl, h1, h2⟩
    · rintro ⟨l1, a, b, l2, e, h1, h2⟩
      cases l1 with
      | nil =>
        simp only [List.nil_append, List.cons.injEq] at e
        obtain ⟨rfl, rfl, rfl⟩ := e
        exact .inl ⟨h1, h2⟩
      | cons z l1 =>
        simp only [List.cons_append, List.cons.injEq] at e
        exact .inr ⟨l1, a, b, l2, e.2, h1, h2⟩
theorem folT_bit (first : List Nat) : ∀ (l : List Pr) (T : List Nat), T.length = 64 → (∀ p ∈ l, ∀ x ∈ p.bd, x.toNat < 64) → ∀ s x, ((folT first l T).getD s 0).testBit x = true ↔ (T.getD s 0).testBit x = true ∨ ∃ p ∈ l, ∃ l1 a b l2, p.bd = l1 ++ a :: b :: l2 ∧ s = a.toNat ∧ (first.getD b.toNat 0).testBit x = true
  | [], T, _, _, s, x => by simp [folT]
  | p :: l, T, hl, hx, s, x => by
    rw [folT, folT_bit first l _ ((folRow_len _ _ _).trans hl) (fun q hq => hx q (List.mem_cons_of_mem _ hq)), folRow_bit first _ _ hl (hx p (List.mem_cons_self ..)), or_assoc, ex_cons]
theorem fol_sem {g : Gr} (hg : NumOk g) (hne : ∀ p ∈ g.ps, p.bd ≠ []) {first : List Nat} (hf : first = tbW (fun s x => Beg g s x)) (s x : Nat) (hx : x < 64) : Lead (folWs g.ps) (folT first g.ps (z64.set g.st.toNat (2 ^ g.t.toNat))) s x ↔ Fol g s x := by
  have h1 := hg.t1
  have h2 := hg.s2
  have h3 := hg.st1
  have h4 := hg.st2
  have h5 := hg.t2
  have hbd : ∀ p ∈ g.ps, ∀ x ∈ p.bd, x.toNat < 64 := fun p hp x hx => by have := hg.bd p hp x hx; omega
  have hl0 : (z64.set g.st.toNat (2 ^ g.t.toNat)).length = 64 := by rw [List.length_set, z64_ok.ln]
  constructor
  · intro h
    induction h with
    | @base s x hb =>
      rw [folT_bit _ _ _ hl0 hbd, getD_setN, z64_ok.ln] at hb
      rcases hb with hb | ⟨p, hp, l1, a, b, l2, e, rfl, hb⟩
      · split at hb
        · rename_i he
          rw [Nat.testBit_two_pow] at hb
          have e : g.t.toNat = x := by simpa using hb
          have e1 : (s : Int) = g.st := by omega
          have e2 : (x : Int) = g.t := by omega
          rw [e1, e2]; exact .fin
        · rw [z64_get] at hb; simp at hb
      · have h6 := hg.bd p hp a (by rw [e]; simp)
        have h7 := hg.bd p hp b (by rw [e]; simp)
        rw [hf, tbW_get _ (by omega), wd_test, Int.toNat_of_nonneg h7.1] at hb
        rw [Int.toNat_of_nonneg h6.1]
        exact .nx hp e hb.2
    | @go w x hw h ih =>
      obtain ⟨p, hp, rfl⟩ := List.mem_map.1 hw
      have h6 := hg.hd p hp
      have h7 := hg.bd p hp _ (last_mem (hne p hp))
      simp only at ih ⊢
      have ih := ih hx
      rw [Int.toNat_of_nonneg (by omega)] at ih
      rw [Int.toNat_of_nonneg h7.1]
      have e := last_eq (hne p hp)
      exact .last hp e ih
  · intro h
    obtain ⟨s', hs'⟩ : ∃ z : Int, (s : Int) = z := ⟨_, rfl⟩
    obtain ⟨x', hx'⟩ : ∃ z : Int, (x : Int) = z := ⟨_, rfl⟩
    rw [hs', hx'] at h
    have hx2 : x'.toNat < 64 ∧ 0 ≤ x' := by omega
    have hh : Lead (folWs g.ps) (folT first g.ps (z64.set g.st.toNat (2 ^ g.t.toNat))) s'.toNat x'.toNat := by
      clear hs' hx'
      induction h with
      | fin =>
        refine .base ?_
        rw [folT_bit _ _ _ hl0 hbd, getD_setN, if_pos ⟨rfl, by rw [z64_ok.ln]; omega⟩, Nat.testBit_two_pow]
        left; simp
      | @nx p a b z l1 l2 hp e hb =>
        refine .base ?_
        have h7 := hg.bd p hp b (by rw [e]; simp)
        rw [folT_bit _ _ _ hl0 hbd]
        refine .inr ⟨p, hp, l1, a, b, l2, e, rfl, ?_⟩
        rw [hf, tbW_get _ (by omega), wd_test, Int.toNat_of_nonneg h7.1, Int.toNat_of_nonneg hx2.2]
        exact ⟨hx2.1, hb⟩
      | @last p a z l1 hp e hb ih =>
        refine Lead.go (w := (p.hd, p.bd.getLastD 0)) (List.mem_map.2 ⟨p, hp, rfl⟩) (ih hx2) |> fun h => ?_
        have e2 : p.bd.getLastD 0 = a := by rw [e]; simp
        simp only [e2] at h
        exact h
    rw [← hs', ← hx'] at hh
    simpa using hh
end Go.Proofs.Ytpmkdpjcpimhkaa
