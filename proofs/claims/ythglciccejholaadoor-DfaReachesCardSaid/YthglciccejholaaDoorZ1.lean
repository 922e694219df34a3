/- Texts of package regs, one behind the other. -/
import Derived.WalkKit
import Derived.Below
import Derived.Laws.AppendOwn
import Derived.Laws.OwnMore
import Derived.Lib.Hide
import Derived.Lib.Walk
section
/- Package nfa, plain. -/
namespace Go.Proofs.YthglciccejholaaDoor
set_option linter.unusedSimpArgs false
set_option linter.unusedVariables false
set_option maxRecDepth 100000
/- Automata with choice: plain. -/
/-- A state. -/
structure Nst where
  u : Nat → Int
  to : Int
  fr : List Int
  rl : Int
def frees : List Nst → Nat
  | [] => 0
  | s :: r => s.fr.length + frees r
def tooM (ss : List Nst) : Bool := decide (4096 < ss.length) || decide (16384 < frees ss)
def stOk (n : Nat) (s : Nst) : Bool := decide (s.to < n) && (decide (s.rl < 48) && s.fr.all fun x => decide (0 ≤ x) && decide (x < n))
def mayN (st : Int) (ss : List Nst) : Bool := (decide (0 ≤ st) && decide (st < ss.length)) && ss.all (stOk ss.length)
/-- Check's answer. -/
def chkN (st : Int) (ss : List Nst) : Int := if tooM ss = true then 3 else if mayN st ss = true then 0 else 2
theorem frees_app : ∀ a b : List Nst, frees (a ++ b) = frees a + frees b
  | [], b => by simp [frees]
  | s :: a, b => by simp only [List.cons_append, frees, frees_app a b]; omega
theorem frees_take (ss : List Nst) (j : Nat) (h : j < ss.length) : frees (ss.take (j + 1)) = frees (ss.take j) + (ss[j]).fr.length := by
  rw [List.take_add_one, List.getElem?_eq_getElem h, frees_app]
  simp [frees]
theorem frees_take_le : ∀ (ss : List Nst) (j : Nat), frees (ss.take j) ≤ frees ss
  | [], j => by simp [frees]
  | s :: r, 0 => by simp [frees]
  | s :: r, j + 1 => by
    have := frees_take_le r j
    simp only [List.take_succ_cons, frees]; omega
/-- A state is added, unless it is there. -/
def rch (l : List Nat) (s : Nat) : List Nat := if s ∈ l then l else l ++ [s]
def rchAll : List Nat → List Int → List Nat
  | l, [] => l
  | l, x :: r => rchAll (rch l x.toNat) r
def frOf (ss : List Nst) (s : Nat) : List Int := match ss[s]? with
  | some x => x.fr
  | none => []
def goF (ss : List Nst) : Nat → Nat → List Nat → List Nat
  | 0, _, l => l
  | k + 1, i, l => match l[i]? with
    | none => l
    | some s => goF ss k (i + 1) (rchAll l (frOf ss s))
/-- Free ways lead from a state to another one. -/
inductive Rt (ss : List Nst) : Nat → Nat → Prop where
  | refl (a : Nat) : Rt ss a a
  | step {a b c : Nat} (h : Rt ss a b) (x : Int) (hx : x ∈ frOf ss b) (hc : c = x.toNat) : Rt ss a c
theorem Rt.trans {ss : List Nst} {a b c : Nat} (h : Rt ss a b) (g : Rt ss b c) : Rt ss a c := by
  induction g with
  | refl => exact h
  | step _ x hx hc ih => exact .step ih x hx hc
theorem mem_rch {l : List Nat} {s b : Nat} : b ∈ rch l s ↔ b ∈ l ∨ b = s := by
  unfold rch
  by_cases h : s ∈ l
  · rw [if_pos h]
    exact ⟨.inl, fun g => g.elim id fun e => e ▸ h⟩
  · rw [if_neg h]; simp
theorem mem_rchAll : ∀ {l : List Nat} {r : List Int} {b : Nat}, b ∈ rchAll l r ↔ b ∈ l ∨ ∃ x ∈ r, b = x.toNat
  | l, [], b => by simp [rchAll]
  | l, x :: r, b => by
    rw [rchAll, mem_rchAll, mem_rch]
    simp only [List.mem_cons, exists_eq_or_imp]
    exact ⟨fun h => h.elim (fun h => h.elim .inl fun h => .inr (.inl h)) fun h => .inr (.inr h), fun h => h.elim (fun h => .inl (.inl h)) fun h => h.elim (fun h => .inl (.inr h)) .inr⟩
theorem rch_nd {l : List Nat} (h : l.Nodup) (s : Nat) : (rch l s).Nodup := by
  unfold rch
  by_cases hs : s ∈ l
  · rwa [if_pos hs]
  · rw [if_neg hs, List.nodup_append]
    exact ⟨h, by simp, fun a ha b hb => by simp at hb; subst hb; intro e; exact hs (e ▸ ha)⟩
theorem rchAll_nd : ∀ {l : List Nat} {r : List Int}, l.Nodup → (rchAll l r).Nodup
  | l, [], h => h
  | l, x :: r, h => by rw [rchAll]; exact rchAll_nd (rch_nd h x.toNat)
/-- What is added is added at the end. -/
theorem rch_pre (l : List Nat) (s : Nat) : ∃ m, rch l s = l ++ m := by
  unfold rch
  by_cases h : s ∈ l
  · exact ⟨[], by rw [if_pos h]; simp⟩
  · exact ⟨[s], by rw [if_neg h]⟩
theorem rchAll_pre : ∀ (r : List Int) (l : List Nat), ∃ m, rchAll l r = l ++ m
  | [], l => ⟨[], by simp [rchAll]⟩
  | x :: r, l => by
    obtain ⟨m, hm⟩ := rch_pre l x.toNat
    obtain ⟨m', hm'⟩ := rchAll_pre r (rch l x.toNat)
    exact ⟨m ++ m', by rw [rchAll, hm', hm, List.append_assoc]⟩
theorem nd_len {l : List Nat} (h : l.Nodup) {n : Nat} (hl : ∀ b ∈ l, b < n) : l.length ≤ n := by
  have h1 := List.Nodup.length_le_of_subset (l₁ := l) (l₂ := List.range n) h fun b hb => List.mem_range.2 (hl b hb)
  simpa using h1
theorem goF_spec (ss : List Nst) (n : Nat) (hfr : ∀ s x, x ∈ frOf ss s → x.toNat < n) : ∀ (k i : Nat) (l0 l : List Nat), l.Nodup → (∀ b ∈ l, b < n) → n < i + k → i ≤ l.length → (∀ b ∈ l, ∃ a ∈ l0, Rt ss a b) → (∀ a ∈ l0, a ∈ l) → (∀ j (h : j < i) (h' : j < l.length), ∀ x ∈ frOf ss l[j], x.toNat ∈ l) →
    (goF ss k i l).Nodup ∧ (∀ b, b ∈ goF ss k i l ↔ ∃ a ∈ l0, Rt ss a b)
  | 0, i, l0, l, hnd, hl, hk, hi, _, _, _ => by have := nd_len hnd hl; omega
  | k + 1, i, l0, l, hnd, hl, hk, hi, hr, h0, hc => by
    rw [goF]
    cases hg : l[i]? with
    | none =>
      have hge : l.length ≤ i := by rwa [List.getElem?_eq_none_iff] at hg
      refine ⟨hnd, fun b => ⟨hr b, ?_⟩⟩
      rintro ⟨a, ha, hab⟩
      have : ∀ a b, Rt ss a b → a ∈ l → b ∈ l := fun a b h => by
        induction h with
        | refl => exact id
        | step _ x hx hce ih =>
          intro h1
          obtain ⟨j, hj, hjb⟩ := List.getElem_of_mem (ih h1)
          rw [hce]
          exact hc j (by omega) hj x (by rw [hjb]; exact hx)
      exact this a b hab (h0 a ha)
    | some s =>
      obtain ⟨hlt, hs⟩ := List.getElem?_eq_some_iff.1 hg
      have hsl : s ∈ l := hs ▸ List.getElem_mem hlt
      obtain ⟨m, hm⟩ := rchAll_pre (frOf ss s) l
      refine goF_spec ss n hfr k (i + 1) l0 _ (rchAll_nd hnd) (fun b hb => ?_) (by omega) (by rw [hm]; simp; omega) (fun b hb => ?_) (fun a ha => mem_rchAll.2 (.inl (h0 a ha))) (fun j hj hj' x hx => ?_)
      · rcases mem_rchAll.1 hb with h | ⟨x, hx, rfl⟩
        · exact hl b h
        · exact hfr s x hx
      · rcases mem_rchAll.1 hb with h | ⟨x, hx, rfl⟩
        · exact hr b h
        · obtain ⟨a, ha, hra⟩ := hr s hsl
          exact ⟨a, ha, .step hra x hx rfl⟩
      · have hjl : j < l.length := by omega
        have e : (rchAll l (frOf ss s))[j] = l[j] := by simp only [hm]; rw [List.getElem_append_left hjl]
        rw [e] at hx
        by_cases hji : j < i
        · exact mem_rchAll.2 (.inl (hc j hji hjl x hx))
        · obtain rfl : j = i := by omega
          rw [hs] at hx
          exact mem_rchAll.2 (.inr ⟨x, hx, rfl⟩)
/-- Where a byte leads from a state. -/
def toOf (has : (Nat → Int) → UInt8 → Bool) (ss : List Nst) (b : UInt8) (s : Nat) : Option Nat := match ss[s]? with
  | some x => if 0 ≤ x.to ∧ has x.u b = true then some x.to.toNat else none
  | none => none
def goB (has : (Nat → Int) → UInt8 → Bool) (ss : List Nst) (b : UInt8) : List Nat → List Nat → List Nat
  | [], l => l
  | s :: r, l => goB has ss b r (match toOf has ss b s with
    | some t => rch l t
    | none => l)
def runB (has : (Nat → Int) → UInt8 → Bool) (ss : List Nst) : List UInt8 → List Nat → List Nat
  | [], l => l
  | b :: r, l => if l = [] then [] else runB has ss r (goF ss (ss.length + 1) 0 (goB has ss b l []))
def rlOf (ss : List Nst) (s : Nat) : Int := match ss[s]? with
  | some x => x.rl
  | none => -1
def rulesOf (ss : List Nst) (l : List Nat) : List Int := ((List.range 48).filter fun (r : Nat) => l.any fun s => decide (rlOf ss s = (r : Int))).map fun (r : Nat) => (r : Int)
/-- Accepts' answer. -/
def accL (has : (Nat → Int) → UInt8 → Bool) (st : Int) (ss : List Nst) (x : List UInt8) : List Int := rulesOf ss (runB has ss x (goF ss (ss.length + 1) 0 [st.toNat]))
theorem mem_goB {has : (Nat → Int) → UInt8 → Bool} {ss : List Nst} {b : UInt8} : ∀ {r l : List Nat} {t : Nat}, t ∈ goB has ss b r l ↔ t ∈ l ∨ ∃ s ∈ r, toOf has ss b s = some t
  | [], l, t => by simp [goB]
  | s :: r, l, t => by
    rw [goB, mem_goB]
    cases h : toOf has ss b s with
    | none => simp [h]
    | some z =>
      simp only [mem_rch, List.mem_cons, exists_eq_or_imp, h, Option.some.injEq]
      exact ⟨fun g => g.elim (fun g => g.elim .inl fun g => .inr (.inl g.symm)) fun g => .inr (.inr g), fun g => g.elim (fun g => .inl (.inl g)) fun g => g.elim (fun g => .inl (.inr g.symm)) .inr⟩
theorem goB_nd {has : (Nat → Int) → UInt8 → Bool} {ss : List Nst} {b : UInt8} : ∀ {r l : List Nat}, l.Nodup → (goB has ss b r l).Nodup
  | [], l, h => h
  | s :: r, l, h => by
    rw [goB]
    refine goB_nd ?_
    cases toOf has ss b s with
    | none => exact h
    | some z => exact rch_nd h z
/-- Where a text leads. -/
def Acc (has : (Nat → Int) → UInt8 → Bool) (ss : List Nst) : List UInt8 → Nat → Nat → Prop
  | [], a, b => Rt ss a b
  | c :: r, a, b => ∃ s t, Rt ss a s ∧ toOf has ss c s = some t ∧ Acc has ss r t b
theorem Acc.of {has : (Nat → Int) → UInt8 → Bool} {ss : List Nst} : ∀ {x : List UInt8} {a a' b : Nat}, Rt ss a a' → Acc has ss x a' b → Acc has ss x a b
  | [], a, a', b, h, g => Rt.trans (show Rt ss a a' from h) g
  | c :: r, a, a', b, h, ⟨s, t, h1, h2, h3⟩ => ⟨s, t, h.trans h1, h2, h3⟩
structure Fine (ss : List Nst) : Prop where
  fr : ∀ s x, x ∈ frOf ss s → x.toNat < ss.length
  to : ∀ has b s t, toOf has ss b s = some t → t < ss.length
theorem goF_all {ss : List Nst} (hf : Fine ss) {l : List Nat} (hnd : l.Nodup) (hl : ∀ b ∈ l, b < ss.length) : (goF ss (ss.length + 1) 0 l).Nodup ∧ ∀ b, b ∈ goF ss (ss.length + 1) 0 l ↔ ∃ a ∈ l, Rt ss a b :=
  goF_spec ss ss.length hf.fr (ss.length + 1) 0 l l hnd hl (by omega) (by omega) (fun b hb => ⟨b, hb, .refl b⟩) (fun a ha => ha) (fun j hj => by omega)
theorem Rt.lt {ss : List Nst} (hf : Fine ss) {a b : Nat} (h : Rt ss a b) (ha : a < ss.length) : b < ss.length := by
  induction h with
  | refl => exact ha
  | step _ x hx hc _ => rw [hc]; exact hf.fr _ x hx
theorem goF_lt {ss : List Nst} (hf : Fine ss) {l : List Nat} (hnd : l.Nodup) (hl : ∀ b ∈ l, b < ss.length) : ∀ b ∈ goF ss (ss.length + 1) 0 l, b < ss.length := fun b hb => by
  obtain ⟨a, ha, h⟩ := ((goF_all hf hnd hl).2 b).1 hb
  exact h.lt hf (hl a ha)
theorem mem_runB {has : (Nat → Int) → UInt8 → Bool} {ss : List Nst} (hf : Fine ss) : ∀ (x : List UInt8) (l0 l : List Nat), l.Nodup → (∀ b ∈ l, b < ss.length) → (∀ b, b ∈ l ↔ ∃ a ∈ l0, Rt ss a b) → ∀ b, b ∈ runB has ss x l ↔ ∃ a ∈ l0, Acc has ss x a b
  | [], l0, l, _, _, h, b => h b
  | c :: r, l0, l, hnd, hl, h, b => by
    rw [runB]
    by_cases he : l = []
    · rw [if_pos he]
      subst he
      constructor
      · intro h; cases h
      · rintro ⟨a, ha, s, t, h1, h2, h3⟩
        exact absurd ((h s).2 ⟨a, ha, h1⟩) (by simp)
    · rw [if_neg he]
      have n1 : (goB has ss c l []).Nodup := goB_nd (by simp)
      have n2 : ∀ t ∈ goB has ss c l [], t < ss.length := fun t ht => by
        rcases mem_goB.1 ht with h | ⟨s, _, h⟩
        · cases h
        · exact hf.to _ _ _ _ h
      have n3 := goF_all hf n1 n2
      rw [mem_runB hf r (goB has ss c l []) _ n3.1 (goF_lt hf n1 n2) n3.2 b]
      constructor
      · rintro ⟨t, ht, hr⟩
        rcases mem_goB.1 ht with h' | ⟨s, hs, h'⟩
        · cases h'
        · obtain ⟨a, ha, hras⟩ := (h s).1 hs
          exact ⟨a, ha, s, t, hras, h', hr⟩
      · rintro ⟨a, ha, s, t, h1, h2, h3⟩
        exact ⟨t, mem_goB.2 (.inr ⟨s, (h s).2 ⟨a, ha, h1⟩, h2⟩), h3⟩
theorem mem_acc {has : (Nat → Int) → UInt8 → Bool} {ss : List Nst} (hf : Fine ss) {st : Nat} (hst : st < ss.length) (x : List UInt8) (b : Nat) : b ∈ runB has ss x (goF ss (ss.length + 1) 0 [st]) ↔ Acc has ss x st b := by
  have n1 : ∀ b ∈ [st], b < ss.length := fun b hb => by simp at hb; omega
  have n2 := goF_all hf (l := [st]) (by simp) n1
  rw [mem_runB hf x [st] _ n2.1 (goF_lt hf (by simp) n1) n2.2 b]
  simp
theorem mayN_fine {st : Int} {ss : List Nst} (h : mayN st ss = true) : Fine ss ∧ 0 ≤ st ∧ st < ss.length := by
  unfold mayN at h
  simp only [Bool.and_eq_true, decide_eq_true_eq, List.all_eq_true] at h
  obtain ⟨⟨h1, h2⟩, h3⟩ := h
  refine ⟨⟨fun s x hx => ?_, fun has b s t ht => ?_⟩, h1, h2⟩
  · unfold frOf at hx
    cases hs : ss[s]? with
    | none => rw [hs] at hx; cases hx
    | some y =>
      rw [hs] at hx
      have := h3 y (List.mem_of_getElem? hs)
      unfold stOk at this
      simp only [Bool.and_eq_true, decide_eq_true_eq, List.all_eq_true] at this
      have := this.2.2 x hx
      omega
  · unfold toOf at ht
    cases hs : ss[s]? with
    | none => rw [hs] at ht; cases ht
    | some y =>
      rw [hs] at ht
      simp only at ht
      split at ht
      · cases ht
        have := h3 y (List.mem_of_getElem? hs)
        unfold stOk at this
        simp only [Bool.and_eq_true, decide_eq_true_eq, List.all_eq_true] at this
        have := this.1
        rename_i h5
        omega
      · cases ht
end Go.Proofs.YthglciccejholaaDoor
end
section
/- Package nfa, plain. -/
namespace Go.Proofs.YthglciccejholaaDoor
set_option linter.unusedSimpArgs false
set_option linter.unusedVariables false
set_option maxRecDepth 100000
/- Automata in memory. -/
theorem blk_lt {w : World} {b o : Nat} {v : Value} (h : w.cell? ⟨b, o, none⟩ = some v) : b < w.heap.size := World.block_lt_of_cell? w _ h
theorem cell_same {w w' : World} {b : Nat} (h : w'.heap[b]? = w.heap[b]?) (o : Nat) : w'.cell? ⟨b, o, none⟩ = w.cell? ⟨b, o, none⟩ := by
  unfold World.cell?; simp only [h]
/-- A list of numbers. -/
def IV (D : Nat → Prop) (w : World) (l : List Int) (sl : Value) : Prop := ∃ p c, sl = .slice p l.length c ∧ (l ≠ [] → ∃ b o, p = some ⟨b, o, none⟩ ∧ D b ∧ ∀ i (h : i < l.length), w.cell? ⟨b, o + i, none⟩ = some (.int .i64 l[i]))
theorem IV.mono {D E : Nat → Prop} {w w' : World} (hE : ∀ b, D b → E b) (hw : ∀ b, D b → b < w.heap.size → w'.heap[b]? = w.heap[b]?) {l : List Int} {sl : Value} (h : IV D w l sl) : IV E w' l sl := by
  obtain ⟨p, c, rfl, h⟩ := h
  refine ⟨p, c, rfl, fun hn => ?_⟩
  obtain ⟨b, o, hp, hD, hc⟩ := h hn
  refine ⟨b, o, hp, hE b hD, fun i hi => ?_⟩
  rw [← hc i hi]
  exact cell_same (hw b hD (blk_lt (hc i hi))) _
theorem IV.nil (D : Nat → Prop) (w : World) (p : Option Addr) (c : Nat) : IV D w [] (.slice p 0 c) := ⟨p, c, rfl, fun h => absurd rfl h⟩
/-- A state's cells. -/
def stC (u : Nat → Int) (to : Int) (sl : Value) (rl : Int) : Array Value := #[.int .u64 (u 0), .int .u64 (u 1), .int .u64 (u 2), .int .u64 (u 3), .int .i64 to, sl, .int .i64 rl]
/-- A list of states. -/
def SV (D : Nat → Prop) (w : World) (ss : List Nst) (sl : Value) : Prop := ∃ p c, sl = .slice p ss.length c ∧ (ss ≠ [] → ∃ b o, p = some ⟨b, o, none⟩ ∧ D b ∧ ∀ i (h : i < ss.length), ∃ q f, IV D w ss[i].fr (.slice q ss[i].fr.length f) ∧
    ∀ j y, (stC ss[i].u ss[i].to (.slice q ss[i].fr.length f) ss[i].rl)[j]? = some y → w.cell? ⟨b, o + i * 7 + j, none⟩ = some y)
theorem SV.mono {D E : Nat → Prop} {w w' : World} (hE : ∀ b, D b → E b) (hw : ∀ b, D b → b < w.heap.size → w'.heap[b]? = w.heap[b]?) {ss : List Nst} {sl : Value} (h : SV D w ss sl) : SV E w' ss sl := by
  obtain ⟨p, c, rfl, h⟩ := h
  refine ⟨p, c, rfl, fun hn => ?_⟩
  obtain ⟨b, o, hp, hD, hc⟩ := h hn
  refine ⟨b, o, hp, hE b hD, fun i hi => ?_⟩
  obtain ⟨q, f, h1, h2⟩ := hc i hi
  refine ⟨q, f, h1.mono hE hw, fun j y hy => ?_⟩
  have h3 := h2 j y hy
  rw [← h3]
  exact cell_same (hw b hD (blk_lt h3)) _
theorem SV.lt {D : Nat → Prop} {w : World} {ss : List Nst} {p : Option Addr} {n c : Nat} (h : SV D w ss (.slice p n c)) : n = ss.length := by
  obtain ⟨p', c', he, _⟩ := h
  cases he; rfl
/-- A row of truths. -/
def mkb (n : Nat) (l : List Nat) : Array Value := Array.ofFn (n := n) fun i => .bool (decide (i.val ∈ l))
theorem mkb_size (n : Nat) (l : List Nat) : (mkb n l).size = n := by simp [mkb]
theorem mkb_get {n : Nat} {l : List Nat} {i : Nat} (h : i < n) : (mkb n l)[i]? = some (.bool (decide (i ∈ l))) := by
  simp [mkb, Array.getElem?_ofFn, h]
theorem mkb_set {n : Nat} {l : List Nat} {s : Nat} : (mkb n l).setIfInBounds s (.bool true) = mkb n (l ++ [s]) := by
  apply Array.ext
  · simp [mkb]
  · intro i h1 h2
    have hi : i < n := by simpa [mkb] using h2
    have e : ((mkb n l).setIfInBounds s (.bool true))[i]? = (mkb n (l ++ [s]))[i]? := by
      rw [Array.getElem?_setIfInBounds, mkb_get hi, mkb_get hi]
      by_cases hs : s = i
      · subst hs; simp [mkb_size, hi]
      · rw [if_neg hs]; simp [Ne.symm hs]
    rw [Array.getElem?_eq_getElem h1, Array.getElem?_eq_getElem h2] at e
    exact Option.some.inj e
theorem mkb_nil (n : Nat) : mkb n [] = Array.replicate n (.bool false) := by
  apply Array.ext
  · simp [mkb]
  · intro i h1 h2; simp [mkb]
/-- The states that there are, in a row of one's own with room. -/
def own1 (base g cap : Nat) (l : List Nat) (cs : Array Value) (w : World) : Prop := base ≤ g ∧ w.heap[g]? = some (.cells cs 3 (0, 0)) ∧ l.length ≤ cap ∧ cap ≤ maxLen ∧ cs.size = cap ∧ ∀ i (h : i < l.length), cs[i]? = some (.int .i64 (l[i] : Nat))
theorem own1_row {base g cap : Nat} {l : List Nat} {cs : Array Value} {w : World} (h : own1 base g cap l cs w) : w.ownsRow base 3 1 (.slice (some ⟨g, 0, none⟩) l.length cap) l.length (l.map fun s => .int .i64 (s : Nat)) := by
  obtain ⟨h1, h2, h3, h4, h5, h6⟩ := h
  refine ⟨by simp, .inr ⟨g, cap, cs, rfl, h1, h2, h3, h4, by omega, ?_⟩⟩
  apply List.ext_getElem?
  intro i
  rw [Nat.mul_one, List.getElem?_take]
  by_cases hi : i < l.length
  · rw [if_pos hi, Array.getElem?_toList, h6 i hi]
    simp [hi]
  · rw [if_neg hi, List.getElem?_eq_none (by simp; omega)]
theorem own1_of {base : Nat} {l : List Nat} {sl : Value} {w : World} (h : w.ownsRow base 3 1 sl l.length (l.map fun s => .int .i64 (s : Nat))) (hn : l ≠ []) : ∃ g cap cs, sl = .slice (some ⟨g, 0, none⟩) l.length cap ∧ own1 base g cap l cs w := by
  obtain ⟨h0, ⟨_, h1⟩ | ⟨g, cap, cs, rfl, h1, h2, h3, h4, h5, h6⟩⟩ := h
  · exact absurd (List.length_eq_zero_iff.1 h1) hn
  · refine ⟨g, cap, cs, rfl, h1, h2, h3, h4, by omega, fun i hi => ?_⟩
    have e := congrArg (fun x : List Value => x[i]?) h6
    simp only [Nat.mul_one, List.getElem?_take, if_pos hi, Array.getElem?_toList] at e
    rw [e]; simp [hi]
end Go.Proofs.YthglciccejholaaDoor
end
section
/- Package nfa, plain. -/
namespace Go.Proofs.YthglciccejholaaDoor
set_option linter.unusedSimpArgs false
set_option linter.unusedVariables false
set_option maxRecDepth 100000
open Go.RowKit
/- One number behind a row with room: the row is known whole. -/
theorem take_set (cur : Array Value) (n : Nat) (v : Value) (h : n < cur.size) : (cur.toList.take n ++ [v] ++ cur.toList.drop (n + 1)).toArray = cur.setIfInBounds n v := by
  apply Array.ext'
  rw [Array.toList_setIfInBounds]
  simp only [List.append_assoc, List.singleton_append]
  rw [List.set_eq_take_append_cons_drop, if_pos (by simpa using h)]
theorem wp_append_row1 {P : Program} (w : World) {o : Oper} {a : Act} {K : Act → World → Prop} {Q : Exit → Act → World → Prop} (s x : Operand) (t : TypeId)
    (ho : o.op = .call { callee := .builtin .append, args := #[s, x], argTypes := #[t, t] })
    (e : TypeId) (i : TypeInfo) (ht : P.underlying t = some (.slice e)) (hi : P.info? e = some i) (hsize : i.size = 1)
    (g n cap : Nat) (cur : Array Value) (hg : w.heap[g]? = some (.cells cur e (0, 0))) (hs : a.eval s = .slice (some ⟨g, 0, none⟩) n cap)
    (ad : Addr) (c : Nat) (v : Value) (hx : a.eval x = .slice (some ad) 1 c) (hv : w.cell? (ad.add 0) = some v) (h1 : v.oneCell' = true)
    (hroom : n + 1 ≤ cap) (hfit : n < cur.size)
    (h : K (a.put o.dst (.slice (some ⟨g, 0, none⟩) (n + 1) cap)) (w.setRow g (cur.setIfInBounds n v))) : o.wp P a w K Q := by
  have hr := run_append_room (P := P) w t o.type e i ht hi g n cap cur hg ad 1 c [v] (by simp [hsize]) (fun j u hu => by
    cases j with
    | zero => simp at hu; subst hu; exact hv
    | succ j => simp at hu) (fun u hu => by simp at hu; subst hu; exact h1) hroom (by simp [hsize]; omega)
  rw [hsize, Nat.mul_one, List.length_singleton, take_set cur n v hfit] at hr
  unfold Oper.wp execOp
  simp only [ho, resolve, invoke, builtin, Sem.run_bind, Sem.run_pure, Result.andThen_ok, List.map_toArray, List.map_cons, List.map_nil, hs, hx, hr]
  exact h
theorem wpList_append_row1 {P : Program} (w : World) {ops : Array Oper} {rest : List Oper} {o : Oper} {a : Act} {Q : Exit → Act → World → Prop} (hgd : o.guard = none) (s x : Operand) (t : TypeId)
    (ho : o.op = .call { callee := .builtin .append, args := #[s, x], argTypes := #[t, t] })
    (e : TypeId) (i : TypeInfo) (ht : P.underlying t = some (.slice e)) (hi : P.info? e = some i) (hsize : i.size = 1)
    (g n cap : Nat) (cur : Array Value) (hg : w.heap[g]? = some (.cells cur e (0, 0))) (hs : a.eval s = .slice (some ⟨g, 0, none⟩) n cap)
    (ad : Addr) (c : Nat) (v : Value) (hx : a.eval x = .slice (some ad) 1 c) (hv : w.cell? (ad.add 0) = some v) (h1 : v.oneCell' = true)
    (hroom : n + 1 ≤ cap) (hfit : n < cur.size)
    (h : ∀ w', Hid (w.setRow g (cur.setIfInBounds n v) = w') → wpList P ops Q rest (a.put o.dst (.slice (some ⟨g, 0, none⟩) (n + 1) cap)) w') : wpList P ops Q (o :: rest) a w :=
  wpList_plain hgd fun _ hK => wp_append_row1 w s x t ho e i ht hi hsize g n cap cur hg hs ad c v hx hv h1 hroom hfit (hK _ _ (h _ (Lib.hid rfl)))
end Go.Proofs.YthglciccejholaaDoor
end
