/- Texts of package regs, one behind the other. -/
import Derived.WalkKit
import Derived.Below
import Derived.Laws.AppendOwn
import Derived.Laws.OwnMore
import Derived.Lib.Hide
import Derived.Lib.Walk
import Derived.Test.YthglciccejholaaDoorProg
import Derived.WalkLawsBesides
import Derived.WalkSpells
import Derived.Outline
import Derived.Lib.Slices
import Derived.Lib.Strings
import Derived.RegionTactic
import Derived.LoopTactic
import Derived.IntWalk
import Derived.Deep.QuietTactic
import Derived.BigQuiet
import Derived.Deep.MidRow
import Derived.Maps.AppendAt
import Derived.Laws.Rows
import Derived.Laws.Tables
import Derived.Deep.WholeRow
import Derived.Deep.Cut
import Derived.Deep.CutRange
section
/- Package nfa, plain. -/
namespace Go.Proofs.YthglciccejholaaDoor
set_option linter.unusedSimpArgs false
set_option linter.unusedVariables false
set_option maxRecDepth 100000
/- Automata with choice: plain. -/
/-- A state. -/
structure Nst where
  u : Nat → Int
  «to» : Int
  fr : List Int
  rl : Int
def frees : List Nst → Nat
  | [] => 0
  | s :: r => s.fr.length + frees r
def tooM (ss : List Nst) : Bool := decide (4096 < ss.length) || decide (16384 < frees ss)
def stOk (n : Nat) (s : Nst) : Bool := decide (s.to < n) && (decide (s.rl < 48) && s.fr.all fun x => decide (0 ≤ x) && decide (x < n))
def mayN (st : Int) (ss : List Nst) : Bool := (decide (0 ≤ st) && decide (st < ss.length)) && ss.all (stOk ss.length)
/-- Check's answer. -/
def chkN (st : Int) (ss : List Nst) : Int := if tooM ss = true then 3 else if mayN st ss = true then 0 else 2
theorem frees_app : ∀ a b : List Nst, frees (a ++ b) = frees a + frees b
  | [], b => by simp [frees]
  | s :: a, b => by simp only [List.cons_append, frees, frees_app a b]; omega
theorem frees_take (ss : List Nst) (j : Nat) (h : j < ss.length) : frees (ss.take (j + 1)) = frees (ss.take j) + (ss[j]).fr.length := by
  rw [List.take_add_one, List.getElem?_eq_getElem h, frees_app]
  simp [frees]
theorem frees_take_le : ∀ (ss : List Nst) (j : Nat), frees (ss.take j) ≤ frees ss
  | [], j => by simp [frees]
  | s :: r, 0 => by simp [frees]
  | s :: r, j + 1 => by
    have := frees_take_le r j
    simp only [List.take_succ_cons, frees]; omega
/-- A state is added, unless it is there. -/
def rch (l : List Nat) (s : Nat) : List Nat := if s ∈ l then l else l ++ [s]
def rchAll : List Nat → List Int → List Nat
  | l, [] => l
  | l, x :: r => rchAll (rch l x.toNat) r
def frOf (ss : List Nst) (s : Nat) : List Int := match ss[s]? with
  | some x => x.fr
  | none => []
def goF (ss : List Nst) : Nat → Nat → List Nat → List Nat
  | 0, _, l => l
  | k + 1, i, l => match l[i]? with
    | none => l
    | some s => goF ss k (i + 1) (rchAll l (frOf ss s))
/-- Free ways lead from a state «to» another one. -/
inductive Rt (ss : List Nst) : Nat → Nat → Prop where
  | refl (a : Nat) : Rt ss a a
  | step {a b c : Nat} (h : Rt ss a b) (x : Int) (hx : x ∈ frOf ss b) (hc : c = x.toNat) : Rt ss a c
theorem Rt.trans {ss : List Nst} {a b c : Nat} (h : Rt ss a b) (g : Rt ss b c) : Rt ss a c := by
  induction g with
  | refl => exact h
  | step _ x hx hc ih => exact .step ih x hx hc
theorem mem_rch {l : List Nat} {s b : Nat} : b ∈ rch l s ↔ b ∈ l ∨ b = s := by
  unfold rch
  by_cases h : s ∈ l
  · rw [if_pos h]
    exact ⟨.inl, fun g => g.elim id fun e => e ▸ h⟩
  · rw [if_neg h]; simp
theorem mem_rchAll : ∀ {l : List Nat} {r : List Int} {b : Nat}, b ∈ rchAll l r ↔ b ∈ l ∨ ∃ x ∈ r, b = x.toNat
  | l, [], b => by simp [rchAll]
  | l, x :: r, b => by
    rw [rchAll, mem_rchAll, mem_rch]
    simp only [List.mem_cons, exists_eq_or_imp]
    exact ⟨fun h => h.elim (fun h => h.elim .inl fun h => .inr (.inl h)) fun h => .inr (.inr h), fun h => h.elim (fun h => .inl (.inl h)) fun h => h.elim (fun h => .inl (.inr h)) .inr⟩
theorem rch_nd {l : List Nat} (h : l.Nodup) (s : Nat) : (rch l s).Nodup := by
  unfold rch
  by_cases hs : s ∈ l
  · rwa [if_pos hs]
  · rw [if_neg hs, List.nodup_append]
    exact ⟨h, by simp, fun a ha b hb => by simp at hb; subst hb; intro e; exact hs (e ▸ ha)⟩
theorem rchAll_nd : ∀ {l : List Nat} {r : List Int}, l.Nodup → (rchAll l r).Nodup
  | l, [], h => h
  | l, x :: r, h => by rw [rchAll]; exact rchAll_nd (rch_nd h x.toNat)
/-- What is added is added at the end. -/
theorem rch_pre (l : List Nat) (s : Nat) : ∃ m, rch l s = l ++ m := by
  unfold rch
  by_cases h : s ∈ l
  · exact ⟨[], by rw [if_pos h]; simp⟩
  · exact ⟨[s], by rw [if_neg h]⟩
theorem rchAll_pre : ∀ (r : List Int) (l : List Nat), ∃ m, rchAll l r = l ++ m
  | [], l => ⟨[], by simp [rchAll]⟩
  | x :: r, l => by
    obtain ⟨m, hm⟩ := rch_pre l x.toNat
    obtain ⟨m', hm'⟩ := rchAll_pre r (rch l x.toNat)
    exact ⟨m ++ m', by rw [rchAll, hm', hm, List.append_assoc]⟩
theorem nd_len {l : List Nat} (h : l.Nodup) {n : Nat} (hl : ∀ b ∈ l, b < n) : l.length ≤ n := by
  have h1 := List.Nodup.length_le_of_subset (l₁ := l) (l₂ := List.range n) h fun b hb => List.mem_range.2 (hl b hb)
  simpa using h1
theorem goF_spec (ss : List Nst) (n : Nat) (hfr : ∀ s x, x ∈ frOf ss s → x.toNat < n) : ∀ (k i : Nat) (l0 l : List Nat), l.Nodup → (∀ b ∈ l, b < n) → n < i + k → i ≤ l.length → (∀ b ∈ l, ∃ a ∈ l0, Rt ss a b) → (∀ a ∈ l0, a ∈ l) → (∀ j (h : j < i) (h' : j < l.length), ∀ x ∈ frOf ss l[j], x.toNat ∈ l) →
    (goF ss k i l).Nodup ∧ (∀ b, b ∈ goF ss k i l ↔ ∃ a ∈ l0, Rt ss a b)
  | 0, i, l0, l, hnd, hl, hk, hi, _, _, _ => by have := nd_len hnd hl; omega
  | k + 1, i, l0, l, hnd, hl, hk, hi, hr, h0, hc => by
    rw [goF]
    cases hg : l[i]? with
    | none =>
      have hge : l.length ≤ i := by rwa [List.getElem?_eq_none_iff] at hg
      refine ⟨hnd, fun b => ⟨hr b, ?_⟩⟩
      rintro ⟨a, ha, hab⟩
      have : ∀ a b, Rt ss a b → a ∈ l → b ∈ l := fun a b h => by
        induction h with
        | refl => exact id
        | step _ x hx hce ih =>
          intro h1
          obtain ⟨j, hj, hjb⟩ := List.getElem_of_mem (ih h1)
          rw [hce]
          exact hc j (by omega) hj x (by rw [hjb]; exact hx)
      exact this a b hab (h0 a ha)
    | some s =>
      obtain ⟨hlt, hs⟩ := List.getElem?_eq_some_iff.1 hg
      have hsl : s ∈ l := hs ▸ List.getElem_mem hlt
      obtain ⟨m, hm⟩ := rchAll_pre (frOf ss s) l
      refine goF_spec ss n hfr k (i + 1) l0 _ (rchAll_nd hnd) (fun b hb => ?_) (by omega) (by rw [hm]; simp; omega) (fun b hb => ?_) (fun a ha => mem_rchAll.2 (.inl (h0 a ha))) (fun j hj hj' x hx => ?_)
      · rcases mem_rchAll.1 hb with h | ⟨x, hx, rfl⟩
        · exact hl b h
        · exact hfr s x hx
      · rcases mem_rchAll.1 hb with h | ⟨x, hx, rfl⟩
        · exact hr b h
        · obtain ⟨a, ha, hra⟩ := hr s hsl
          exact ⟨a, ha, .step hra x hx rfl⟩
      · have hjl : j < l.length := by omega
        have e : (rchAll l (frOf ss s))[j] = l[j] := by simp only [hm]; rw [List.getElem_append_left hjl]
        rw [e] at hx
        by_cases hji : j < i
        · exact mem_rchAll.2 (.inl (hc j hji hjl x hx))
        · obtain rfl : j = i := by omega
          rw [hs] at hx
          exact mem_rchAll.2 (.inr ⟨x, hx, rfl⟩)
/-- Where a byte leads from a state. -/
def toOf (has : (Nat → Int) → UInt8 → Bool) (ss : List Nst) (b : UInt8) (s : Nat) : Option Nat := match ss[s]? with
  | some x => if 0 ≤ x.to ∧ has x.u b = true then some x.to.toNat else none
  | none => none
def goB (has : (Nat → Int) → UInt8 → Bool) (ss : List Nst) (b : UInt8) : List Nat → List Nat → List Nat
  | [], l => l
  | s :: r, l => goB has ss b r (match toOf has ss b s with
    | some t => rch l t
    | none => l)
def runB (has : (Nat → Int) → UInt8 → Bool) (ss : List Nst) : List UInt8 → List Nat → List Nat
  | [], l => l
  | b :: r, l => if l = [] then [] else runB has ss r (goF ss (ss.length + 1) 0 (goB has ss b l []))
def rlOf (ss : List Nst) (s : Nat) : Int := match ss[s]? with
  | some x => x.rl
  | none => -1
def rulesOf (ss : List Nst) (l : List Nat) : List Int := ((List.range 48).filter fun (r : Nat) => l.any fun s => decide (rlOf ss s = (r : Int))).map fun (r : Nat) => (r : Int)
/-- Accepts' answer. -/
def accL (has : (Nat → Int) → UInt8 → Bool) (st : Int) (ss : List Nst) (x : List UInt8) : List Int := rulesOf ss (runB has ss x (goF ss (ss.length + 1) 0 [st.toNat]))
theorem mem_goB {has : (Nat → Int) → UInt8 → Bool} {ss : List Nst} {b : UInt8} : ∀ {r l : List Nat} {t : Nat}, t ∈ goB has ss b r l ↔ t ∈ l ∨ ∃ s ∈ r, toOf has ss b s = some t
  | [], l, t => by simp [goB]
  | s :: r, l, t => by
    rw [goB, mem_goB]
    cases h : toOf has ss b s with
    | none => simp [h]
    | some z =>
      simp only [mem_rch, List.mem_cons, exists_eq_or_imp, h, Option.some.injEq]
      exact ⟨fun g => g.elim (fun g => g.elim .inl fun g => .inr (.inl g.symm)) fun g => .inr (.inr g), fun g => g.elim (fun g => .inl (.inl g)) fun g => g.elim (fun g => .inl (.inr g.symm)) .inr⟩
theorem goB_nd {has : (Nat → Int) → UInt8 → Bool} {ss : List Nst} {b : UInt8} : ∀ {r l : List Nat}, l.Nodup → (goB has ss b r l).Nodup
  | [], l, h => h
  | s :: r, l, h => by
    rw [goB]
    refine goB_nd ?_
    cases toOf has ss b s with
    | none => exact h
    | some z => exact rch_nd h z
/-- Where a text leads. -/
def Acc (has : (Nat → Int) → UInt8 → Bool) (ss : List Nst) : List UInt8 → Nat → Nat → Prop
  | [], a, b => Rt ss a b
  | c :: r, a, b => ∃ s t, Rt ss a s ∧ toOf has ss c s = some t ∧ Acc has ss r t b
theorem Acc.of {has : (Nat → Int) → UInt8 → Bool} {ss : List Nst} : ∀ {x : List UInt8} {a a' b : Nat}, Rt ss a a' → Acc has ss x a' b → Acc has ss x a b
  | [], a, a', b, h, g => Rt.trans (show Rt ss a a' from h) g
  | c :: r, a, a', b, h, ⟨s, t, h1, h2, h3⟩ => ⟨s, t, h.trans h1, h2, h3⟩
structure Fine (ss : List Nst) : Prop where
  fr : ∀ s x, x ∈ frOf ss s → x.toNat < ss.length
  «to» : ∀ has b s t, toOf has ss b s = some t → t < ss.length
theorem goF_all {ss : List Nst} (hf : Fine ss) {l : List Nat} (hnd : l.Nodup) (hl : ∀ b ∈ l, b < ss.length) : (goF ss (ss.length + 1) 0 l).Nodup ∧ ∀ b, b ∈ goF ss (ss.length + 1) 0 l ↔ ∃ a ∈ l, Rt ss a b :=
  goF_spec ss ss.length hf.fr (ss.length + 1) 0 l l hnd hl (by omega) (by omega) (fun b hb => ⟨b, hb, .refl b⟩) (fun a ha => ha) (fun j hj => by omega)
theorem Rt.lt {ss : List Nst} (hf : Fine ss) {a b : Nat} (h : Rt ss a b) (ha : a < ss.length) : b < ss.length := by
  induction h with
  | refl => exact ha
  | step _ x hx hc _ => rw [hc]; exact hf.fr _ x hx
theorem goF_lt {ss : List Nst} (hf : Fine ss) {l : List Nat} (hnd : l.Nodup) (hl : ∀ b ∈ l, b < ss.length) : ∀ b ∈ goF ss (ss.length + 1) 0 l, b < ss.length := fun b hb => by
  obtain ⟨a, ha, h⟩ := ((goF_all hf hnd hl).2 b).1 hb
  exact h.lt hf (hl a ha)
theorem mem_runB {has : (Nat → Int) → UInt8 → Bool} {ss : List Nst} (hf : Fine ss) : ∀ (x : List UInt8) (l0 l : List Nat), l.Nodup → (∀ b ∈ l, b < ss.length) → (∀ b, b ∈ l ↔ ∃ a ∈ l0, Rt ss a b) → ∀ b, b ∈ runB has ss x l ↔ ∃ a ∈ l0, Acc has ss x a b
  | [], l0, l, _, _, h, b => h b
  | c :: r, l0, l, hnd, hl, h, b => by
    rw [runB]
    by_cases he : l = []
    · rw [if_pos he]
      subst he
      constructor
      · intro h; cases h
      · rintro ⟨a, ha, s, t, h1, h2, h3⟩
        exact absurd ((h s).2 ⟨a, ha, h1⟩) (by simp)
    · rw [if_neg he]
      have n1 : (goB has ss c l []).Nodup := goB_nd (by simp)
      have n2 : ∀ t ∈ goB has ss c l [], t < ss.length := fun t ht => by
        rcases mem_goB.1 ht with h | ⟨s, _, h⟩
        · cases h
        · exact hf.to _ _ _ _ h
      have n3 := goF_all hf n1 n2
      rw [mem_runB hf r (goB has ss c l []) _ n3.1 (goF_lt hf n1 n2) n3.2 b]
      constructor
      · rintro ⟨t, ht, hr⟩
        rcases mem_goB.1 ht with h' | ⟨s, hs, h'⟩
        · cases h'
        · obtain ⟨a, ha, hras⟩ := (h s).1 hs
          exact ⟨a, ha, s, t, hras, h', hr⟩
      · rintro ⟨a, ha, s, t, h1, h2, h3⟩
        exact ⟨t, mem_goB.2 (.inr ⟨s, (h s).2 ⟨a, ha, h1⟩, h2⟩), h3⟩
theorem mem_acc {has : (Nat → Int) → UInt8 → Bool} {ss : List Nst} (hf : Fine ss) {st : Nat} (hst : st < ss.length) (x : List UInt8) (b : Nat) : b ∈ runB has ss x (goF ss (ss.length + 1) 0 [st]) ↔ Acc has ss x st b := by
  have n1 : ∀ b ∈ [st], b < ss.length := fun b hb => by simp at hb; omega
  have n2 := goF_all hf (l := [st]) (by simp) n1
  rw [mem_runB hf x [st] _ n2.1 (goF_lt hf (by simp) n1) n2.2 b]
  simp
theorem mayN_fine {st : Int} {ss : List Nst} (h : mayN st ss = true) : Fine ss ∧ 0 ≤ st ∧ st < ss.length := by
  unfold mayN at h
  simp only [Bool.and_eq_true, decide_eq_true_eq, List.all_eq_true] at h
  obtain ⟨⟨h1, h2⟩, h3⟩ := h
  refine ⟨⟨fun s x hx => ?_, fun has b s t ht => ?_⟩, h1, h2⟩
  · unfold frOf at hx
    cases hs : ss[s]? with
    | none => rw [hs] at hx; cases hx
    | some y =>
      rw [hs] at hx
      have := h3 y (List.mem_of_getElem? hs)
      unfold stOk at this
      simp only [Bool.and_eq_true, decide_eq_true_eq, List.all_eq_true] at this
      have := this.2.2 x hx
      omega
  · unfold toOf at ht
    cases hs : ss[s]? with
    | none => rw [hs] at ht; cases ht
    | some y =>
      rw [hs] at ht
      simp only at ht
      split at ht
      · cases ht
        have := h3 y (List.mem_of_getElem? hs)
        unfold stOk at this
        simp only [Bool.and_eq_true, decide_eq_true_eq, List.all_eq_true] at this
        have := this.1
        rename_i h5
        omega
      · cases ht
end Go.Proofs.YthglciccejholaaDoor
end
section
/- Package nfa, plain. -/
namespace Go.Proofs.YthglciccejholaaDoor
set_option linter.unusedSimpArgs false
set_option linter.unusedVariables false
set_option maxRecDepth 100000
/- Automata in memory. -/
theorem blk_lt {w : World} {b o : Nat} {v : Value} (h : w.cell? ⟨b, o, none⟩ = some v) : b < w.heap.size := World.block_lt_of_cell? w _ h
theorem cell_same {w w' : World} {b : Nat} (h : w'.heap[b]? = w.heap[b]?) (o : Nat) : w'.cell? ⟨b, o, none⟩ = w.cell? ⟨b, o, none⟩ := by
  unfold World.cell?; simp only [h]
/-- A list of numbers. -/
def IV (D : Nat → Prop) (w : World) (l : List Int) (sl : Value) : Prop := ∃ p c, sl = .slice p l.length c ∧ (l ≠ [] → ∃ b o, p = some ⟨b, o, none⟩ ∧ D b ∧ ∀ i (h : i < l.length), w.cell? ⟨b, o + i, none⟩ = some (.int .i64 l[i]))
theorem IV.mono {D E : Nat → Prop} {w w' : World} (hE : ∀ b, D b → E b) (hw : ∀ b, D b → b < w.heap.size → w'.heap[b]? = w.heap[b]?) {l : List Int} {sl : Value} (h : IV D w l sl) : IV E w' l sl := by
  obtain ⟨p, c, rfl, h⟩ := h
  refine ⟨p, c, rfl, fun hn => ?_⟩
  obtain ⟨b, o, hp, hD, hc⟩ := h hn
  refine ⟨b, o, hp, hE b hD, fun i hi => ?_⟩
  rw [← hc i hi]
  exact cell_same (hw b hD (blk_lt (hc i hi))) _
theorem IV.nil (D : Nat → Prop) (w : World) (p : Option Addr) (c : Nat) : IV D w [] (.slice p 0 c) := ⟨p, c, rfl, fun h => absurd rfl h⟩
/-- A state's cells. -/
def stC (u : Nat → Int) («to» : Int) (sl : Value) (rl : Int) : Array Value := #[.int .u64 (u 0), .int .u64 (u 1), .int .u64 (u 2), .int .u64 (u 3), .int .i64 «to», sl, .int .i64 rl]
/-- A list of states. -/
def SV (D : Nat → Prop) (w : World) (ss : List Nst) (sl : Value) : Prop := ∃ p c, sl = .slice p ss.length c ∧ (ss ≠ [] → ∃ b o, p = some ⟨b, o, none⟩ ∧ D b ∧ ∀ i (h : i < ss.length), ∃ q f, IV D w ss[i].fr (.slice q ss[i].fr.length f) ∧
    ∀ j y, (stC ss[i].u ss[i].to (.slice q ss[i].fr.length f) ss[i].rl)[j]? = some y → w.cell? ⟨b, o + i * 7 + j, none⟩ = some y)
theorem SV.mono {D E : Nat → Prop} {w w' : World} (hE : ∀ b, D b → E b) (hw : ∀ b, D b → b < w.heap.size → w'.heap[b]? = w.heap[b]?) {ss : List Nst} {sl : Value} (h : SV D w ss sl) : SV E w' ss sl := by
  obtain ⟨p, c, rfl, h⟩ := h
  refine ⟨p, c, rfl, fun hn => ?_⟩
  obtain ⟨b, o, hp, hD, hc⟩ := h hn
  refine ⟨b, o, hp, hE b hD, fun i hi => ?_⟩
  obtain ⟨q, f, h1, h2⟩ := hc i hi
  refine ⟨q, f, h1.mono hE hw, fun j y hy => ?_⟩
  have h3 := h2 j y hy
  rw [← h3]
  exact cell_same (hw b hD (blk_lt h3)) _
theorem SV.lt {D : Nat → Prop} {w : World} {ss : List Nst} {p : Option Addr} {n c : Nat} (h : SV D w ss (.slice p n c)) : n = ss.length := by
  obtain ⟨p', c', he, _⟩ := h
  cases he; rfl
/-- A row of truths. -/
def mkb (n : Nat) (l : List Nat) : Array Value := Array.ofFn (n := n) fun i => .bool (decide (i.val ∈ l))
/-- The states that there are, in a row of one's own with room. -/
def own1 (base g cap : Nat) (l : List Nat) (cs : Array Value) (w : World) : Prop := base ≤ g ∧ w.heap[g]? = some (.cells cs 3 (0, 0)) ∧ l.length ≤ cap ∧ cap ≤ maxLen ∧ cs.size = cap ∧ ∀ i (h : i < l.length), cs[i]? = some (.int .i64 (l[i] : Nat))
theorem own1_row {base g cap : Nat} {l : List Nat} {cs : Array Value} {w : World} (h : own1 base g cap l cs w) : w.ownsRow base 3 1 (.slice (some ⟨g, 0, none⟩) l.length cap) l.length (l.map fun s => .int .i64 (s : Nat)) := by
  obtain ⟨h1, h2, h3, h4, h5, h6⟩ := h
  refine ⟨by simp, .inr ⟨g, cap, cs, rfl, h1, h2, h3, h4, by omega, ?_⟩⟩
  apply List.ext_getElem?
  intro i
  rw [Nat.mul_one, List.getElem?_take]
  by_cases hi : i < l.length
  · rw [if_pos hi, Array.getElem?_toList, h6 i hi]
    simp [hi]
  · rw [if_neg hi, List.getElem?_eq_none (by simp; omega)]
theorem own1_of {base : Nat} {l : List Nat} {sl : Value} {w : World} (h : w.ownsRow base 3 1 sl l.length (l.map fun s => .int .i64 (s : Nat))) (hn : l ≠ []) : ∃ g cap cs, sl = .slice (some ⟨g, 0, none⟩) l.length cap ∧ own1 base g cap l cs w := by
  obtain ⟨h0, ⟨_, h1⟩ | ⟨g, cap, cs, rfl, h1, h2, h3, h4, h5, h6⟩⟩ := h
  · exact absurd (List.length_eq_zero_iff.1 h1) hn
  · refine ⟨g, cap, cs, rfl, h1, h2, h3, h4, by omega, fun i hi => ?_⟩
    have e := congrArg (fun x : List Value => x[i]?) h6
    simp only [Nat.mul_one, List.getElem?_take, if_pos hi, Array.getElem?_toList] at e
    rw [e]; simp [hi]
end Go.Proofs.YthglciccejholaaDoor
end
section
/- Package nfa, plain. -/
namespace Go.Proofs.YthglciccejholaaDoor
set_option linter.unusedSimpArgs false
set_option linter.unusedVariables false
set_option maxRecDepth 100000
open Go.RowKit
/- One number behind a row with room: the row is known whole. -/
end Go.Proofs.YthglciccejholaaDoor
end
section
/- Package nfa. -/
namespace Go.Proofs.YthglciccejholaaDoor
set_option linter.unusedSimpArgs false
set_option linter.unusedVariables false
set_option maxRecDepth 100000
open Go.RowKit
/- What lies in the blocks that a call has made. -/
theorem at_world {P : Program} {c : Code} {Q : Exit → Act → World → Prop} {a : Act} {w : World} (R : World → Prop) (hR : R w) (h : ∀ y, R y → c.wp P Q a y) : c.wp P Q a w := h w hR
theorem at_worldQ {Q : Exit → Act → World → Prop} {e : Exit} {a : Act} {w : World} (R : World → Prop) (hR : R w) (h : ∀ y, R y → Q e a y) : Q e a w := h w hR
theorem below_grown {B : Nat} {w0 w w' : World} {row : Option Nat} (h : Below B w0 w) (hg : w.grownBy w' row) (hr : ∀ g, row = some g → B ≤ g) (hB : B ≤ w.heap.size) : Below B w0 w' :=
  ⟨hg.os.trans h.os, hg.tape.trans h.tape, hg.output.trans h.output, Nat.le_trans h.size hg.size, fun k hk => (hg.block k (by omega) (fun e => by have := hr k e.symm; omega)).trans (h.block k hk)⟩
theorem below_drewN {B : Nat} {w0 w : World} (h : Below B w0 w) (n : Nat) : Below B w0 (w.drewN n) := ⟨h.os, h.tape, h.output, h.size, h.block⟩
def Sb (w0 w : World) (L : List (Nat × Obj)) : Prop := Below w0.heap.size w0 w ∧ ∀ c ∈ L, w0.heap.size ≤ c.1 ∧ w.heap[c.1]? = some c.2
variable {w0 w w' : World} {L M : List (Nat × Obj)}
theorem Sb.start (w : World) : Sb w w [] := ⟨Below.refl _ _, by simp⟩
theorem Sb.up (h : Sb w0 w L) (hb : Below w.heap.size w w') : Sb w0 w' L :=
  ⟨h.1.trans (hb.mono h.1.size), fun c hc => ⟨(h.2 c hc).1, (hb.block _ (Array.getElem?_eq_some_iff.1 (h.2 c hc).2).1).trans (h.2 c hc).2⟩⟩
theorem Sb.drewN (h : Sb w0 w L) (n : Nat) : Sb w0 (w.drewN n) L := ⟨below_drewN h.1 n, h.2⟩
theorem Sb.drew (h : Sb w0 w L) : Sb w0 w.drew L := h.drewN 1
theorem Sb.alloc (h : Sb w0 w L) (o : Obj) : Sb w0 (w.alloc o) ((w.heap.size, o) :: L) := by
  have h1 : Sb w0 (w.alloc o) L := h.up ((Below.refl _ _).alloc (Nat.le_refl _) _)
  refine ⟨h1.1, fun c hc => ?_⟩
  rcases List.mem_cons.1 hc with rfl | hc
  · exact ⟨h.1.size, heap_alloc_last w o⟩
  · exact h1.2 c hc
theorem Sb.sub (h : Sb w0 w L) (hs : ∀ c ∈ M, c ∈ L) : Sb w0 w M := ⟨h.1, fun c hc => h.2 c (hs c hc)⟩
theorem Sb.set {b i : Nat} {cs : Array Value} {t : TypeId} (h : Sb w0 w ((b, .cells cs t (0, 0)) :: L)) (v : Value) (hne : ∀ c ∈ L, c.1 ≠ b) :
    Sb w0 (w.setCell ⟨b, i, none⟩ v) ((b, .cells (cs.setIfInBounds i v) t (0, 0)) :: L) := by
  have hb := h.2 _ (List.mem_cons_self ..)
  refine ⟨h.1.setCell (p := ⟨b, i, none⟩) hb.1 _, fun c hc => ?_⟩
  rcases List.mem_cons.1 hc with rfl | hc
  · exact ⟨hb.1, heap_setCell_same w b i cs t v hb.2⟩
  · exact ⟨(h.2 c (List.mem_cons_of_mem _ hc)).1, (heap_setCell_other w _ c.1 v (hne c hc)).trans (h.2 c (List.mem_cons_of_mem _ hc)).2⟩
theorem Sb.setRow {b : Nat} {cs cs' : Array Value} {t : TypeId} (h : Sb w0 w ((b, .cells cs t (0, 0)) :: L)) (hne : ∀ c ∈ L, c.1 ≠ b) :
    Sb w0 (w.setRow b cs') ((b, .cells cs' t (0, 0)) :: L) := by
  have hb := h.2 _ (List.mem_cons_self ..)
  refine ⟨⟨h.1.os, h.1.tape, h.1.output, by simpa using h.1.size, fun k hk => (setRow_other w b k cs' (by omega)).trans (h.1.block k hk)⟩, fun c hc => ?_⟩
  rcases List.mem_cons.1 hc with rfl | hc
  · exact ⟨hb.1, setRow_heap w b cs cs' t (0, 0) hb.2⟩
  · exact ⟨(h.2 c (List.mem_cons_of_mem _ hc)).1, (setRow_other w b c.1 cs' (hne c hc)).trans (h.2 c (List.mem_cons_of_mem _ hc)).2⟩
theorem Sb.heap {b : Nat} {o : Obj} (h : Sb w0 w ((b, o) :: L)) : w.heap[b]? = some o := (h.2 _ (List.mem_cons_self ..)).2
theorem Sb.lt {b : Nat} {o : Obj} (h : Sb w0 w ((b, o) :: L)) : b < w.heap.size := (Array.getElem?_eq_some_iff.1 h.heap).1
theorem Sb.tl {c : Nat × Obj} (h : Sb w0 w (c :: L)) : Sb w0 w L := h.sub fun x hx => List.mem_cons_of_mem _ hx
theorem Sb.cell {b : Nat} {cs : Array Value} {t : TypeId} {fr : Nat × Nat} (h : Sb w0 w ((b, .cells cs t fr) :: L)) (j : Nat) : w.cell? ⟨b, j, none⟩ = cs[j]? := cell_of_row w b j cs t fr h.heap
theorem Sb.free {b : Nat} {cs : Array Value} {t : TypeId} (h : Sb w0 w ((b, .cells cs t (0, 0)) :: L)) (j : Nat) : w.frozen? ⟨b, j, none⟩ = false := frozen_of_row w b j cs t h.heap
/-- A row's cells with others put in from o on. -/
def putA : Array Value → Nat → List Value → Array Value
  | cs, _, [] => cs
  | cs, o, v :: r => putA (cs.setIfInBounds o v) (o + 1) r
theorem putA_get : ∀ (vs : List Value) (cs : Array Value) (o i : Nat), o + vs.length ≤ cs.size → (putA cs o vs)[i]? = if o ≤ i ∧ i < o + vs.length then vs[i - o]? else cs[i]?
  | [], cs, o, i, _ => by
    rw [putA, if_neg (by rintro ⟨h1, h2⟩; simp at h2; omega)]
  | v :: r, cs, o, i, h => by
    simp only [List.length_cons] at h
    rw [putA, putA_get r _ (o + 1) i (by simp; omega), Array.getElem?_setIfInBounds]
    simp only [List.length_cons]
    by_cases h1 : o = i
    · subst h1
      rw [if_neg (by omega), if_pos rfl, if_pos (by omega), if_pos (by omega)]
      simp
    · by_cases h2 : o + 1 ≤ i ∧ i < o + 1 + r.length
      · rw [if_pos h2, if_pos (by omega), show i - o = (i - (o + 1)) + 1 by omega]; simp
      · rw [if_neg h2, if_neg h1, if_neg (by omega)]
theorem putA_size : ∀ (vs : List Value) (cs : Array Value) (o : Nat), (putA cs o vs).size = cs.size
  | [], _, _ => rfl
  | v :: r, cs, o => by rw [putA, putA_size]; simp
theorem setCells_heap {b : Nat} {t : TypeId} : ∀ (vs : List Value) (o : Nat) (w : World) (cs : Array Value), w.heap[b]? = some (.cells cs t (0, 0)) → (w.setCells b o vs).heap[b]? = some (.cells (putA cs o vs) t (0, 0))
  | [], _, _, _, h => h
  | v :: r, o, w, cs, h => setCells_heap r (o + 1) _ _ (heap_setCell_same w b o cs t v h)
theorem setCells_other {b z : Nat} (hz : z ≠ b) : ∀ (vs : List Value) (o : Nat) (w : World), (w.setCells b o vs).heap[z]? = w.heap[z]?
  | [], _, _ => rfl
  | v :: r, o, w => by
    rw [World.setCells, setCells_other hz r, heap_setCell_other _ _ _ _ (by simpa using hz)]
theorem setCells_below {B b : Nat} {w0 : World} (hb : B ≤ b) : ∀ (vs : List Value) (o : Nat) (w : World), Below B w0 w → Below B w0 (w.setCells b o vs)
  | [], _, _, h => h
  | v :: r, o, w, h => setCells_below hb r (o + 1) _ (h.setCell (p := ⟨b, o, none⟩) hb v)
theorem setCells_size {b : Nat} : ∀ (vs : List Value) (o : Nat) (w : World), (w.setCells b o vs).heap.size = w.heap.size
  | [], _, _ => rfl
  | v :: r, o, w => by rw [World.setCells, setCells_size r]; simp
end Go.Proofs.YthglciccejholaaDoor
end
