/- Package grams. -/
import Derived.Test.YtpmkdpjcpimhkaaProg
import Derived.Test.YtpmkdpjcpimhkaaIm
import Derived.Deep.SlicePairs
import Derived.Deep.Slices
import Derived.Laws.IdiomArrays
import Derived.OpenShut
import Derived.WideBlind
import Derived.Great.BuildSlice
import Derived.WalkKit
import Derived.Maps.OwnSet
import Derived.Maps.OwnOps
import Derived.Maps.Own
import Derived.DeepKeys5
import Derived.BigFrame
import Derived.WalkMore
import Derived.ScopeJumps
import Derived.StillTailTactics
import Derived.Stop.BytesEq
import Derived.WalkLawsBesides
import Derived.WalkSpells
import Derived.Outline
import Derived.Lib.Walk
import Derived.Lib.Hide
import Derived.Lib.Slices
import Derived.Lib.Strings
import Derived.RegionTactic
import Derived.LoopTactic
import Derived.Below
import Derived.IntWalk
import Derived.Deep.QuietTactic
import Derived.BigQuiet
import Derived.Deep.MidRow
import Derived.Maps.AppendAt
import Derived.Laws.Rows
import Derived.Laws.Tables
import Derived.Deep.WholeRow
import Derived.Deep.Cut
import Derived.Deep.CutRange
import Derived.Lib.SliceRun
import Derived.Laws.MakeOwn
import Derived.Deep.RegionLaw
import Derived.Deep.RegionLawGrows
import Derived.Deep.RegionHeld3
import Derived.RegionCalls
import Derived.Deep.RegionWith
import Derived.Deep.Light
import Derived.Laws.CopyOwn
import Derived.Laws.ResultCell
namespace Go.Proofs.Ytpmkdpjcpimhkaa
set_option linter.unusedSimpArgs false
set_option linter.unusedVariables false
set_option maxRecDepth 100000
open Go.RowKit
/- Laws: what calls tell, as rows of one's own; lists put behind one another. -/
open Go.Maps
abbrev rI (v : Value) (l : List Int) : It := .row v 3 1 l.length (zi l)
theorem NumP.row {B : Nat} {w0 w w' : World} {L : List It} {E : Int} {l : List Int} {e : Ending} (hs : Sep B w0 w L) (h : NumP w E l e w') : ∃ p c, e = .returned (.tuple #[.slice p l.length c, .int .i64 E]) ∧ Sep B w0 w' (rI (.slice p l.length c) l :: L) := by
  obtain ⟨v, rfl, hown, hb⟩ := h
  obtain ⟨p, c, rfl⟩ := rowF_ hown
  exact ⟨p, c, rfl, hs.add hb hown⟩
theorem NumP.bel {w w' : World} {E : Int} {l : List Int} {e : Ending} (h : NumP w E l e w') : Below w.heap.size w w' := by
  obtain ⟨v, _, _, hb⟩ := h
  exact hb
theorem Sep.iv {B : Nat} {w0 w : World} {L : List It} {p : Option Addr} {n c : Nat} {l : List Int} (h : Sep B w0 w L) (hm : rI (.slice p n c) l ∈ L) : IV (fun b => b < w.heap.size) w l (.slice p l.length c) := by
  have hr : w.ownsRow B 3 1 (.slice p n c) l.length (zi l) := h.li _ hm
  obtain ⟨q, d, e, hi⟩ := own_iv hr
  injection e with e1 e2 e3
  rw [e1, e3]; exact hi
theorem Sep.len {B : Nat} {w0 w : World} {L : List It} {p : Option Addr} {n c : Nat} {l : List Int} (h : Sep B w0 w L) (hm : rI (.slice p n c) l ∈ L) : n = l.length := by
  have hr : w.ownsRow B 3 1 (.slice p n c) l.length (zi l) := h.li _ hm
  obtain ⟨q, d, e⟩ := rowF_ hr
  injection e with e1 e2 e3
theorem append_none_none {P : Program} (w : World) (t ty e : TypeId) (i : TypeInfo) (ht : P.underlying t = some (.slice e)) (hi : P.info? e = some i) (q : Option Addr) (c' : Nat) :
    Sem.run P (Builtin.append_ #[t, t] ty #[.slice none 0 0, .slice q 0 c']) w = .ok (.slice none 0 0) w := by
  cases q <;> simp [Builtin.append_, underlying, ht, hi, Go.sizeOf, Go.typeInfo, Builtin.firstCells, storeCells, go_sem]
/-- A list of numbers behind a row of one's own, whatever it is. -/
theorem wp_app0 {o : Oper} {a : Act} {w : World} {K : Act → World → Prop} {Q : Exit → Act → World → Prop} (s x : Operand)
    (ho : o.op = .call { callee := .builtin .append, args := #[s, x], argTypes := #[31, 31] })
    {B : Nat} {w0 : World} (L1 : List It) {L2 : List It} {p p' : Option Addr} {c c' n m : Nat} {A l : List Int} (hs : a.eval s = .slice p n c) (hx : a.eval x = .slice p' m c') (hsep : Sep B w0 w (L1 ++ rI (.slice p n c) A :: L2))
    {D : Nat → Prop} (hl : m = l.length) (hiv : IV D w l (.slice p' l.length c')) (hm : A.length + l.length ≤ 1000000)
    (h : ∀ p2 c2 w', Sep B w0 w' (L1 ++ rI (.slice p2 (A ++ l).length c2) (A ++ l) :: L2) → K (a.put o.dst (.slice p2 (A ++ l).length c2)) w') : o.wp Try.prog a w K Q := by
  obtain ⟨i0, hi, hz0, hz1, hz2⟩ := info_parts info3b
  have hown : w.ownsRow B 3 1 (.slice p n c) A.length (zi A) := hsep.li (rI (.slice p n c) A) (by simp)
  have hn : n = A.length := hsep.len (p := p) (c := c) (l := A) (by simp)
  subst hl
  subst hn
  by_cases hne : l = []
  · subst hne
    have hr : Sem.run Try.prog (Builtin.append_ #[31, 31] o.type #[.slice p A.length c, .slice p' 0 c']) w = .ok (.slice p A.length c) w := by
      rcases hown.2 with ⟨hv, h0⟩ | ⟨g, cap, cur, hv, hb, hg, hc, hc2, hc3, hc4⟩
      · injection hv with e1 e2 e3
        rw [e1, e2, e3]
        exact append_none_none w 31 o.type 3 i0 Try.underlying31 hi p' c'
      · injection hv with e1 e2 e3
        subst e1 e3
        exact run_append_zero w 31 o.type 3 i0 Try.underlying31 hi _ A.length c p' c' hc
    unfold Oper.wp execOp
    simp only [ho, resolve, invoke, builtin, Sem.run_bind, Sem.run_pure, Result.andThen_ok, List.map_toArray, List.map_cons, List.map_nil, hs, hx, List.length_nil, hr]
    have := h p c w (by rw [List.append_nil]; exact hsep)
    rw [List.append_nil] at this
    exact this
  · obtain ⟨p9, c9, he, hh⟩ := hiv
    injection he with e1 e2 e3
    subst e1 e3
    obtain ⟨b, ob, rfl, hDb, hc⟩ := hh hne
    refine wp_append_own s x 31 ho B 3 i0 (.int .i64 0) 1 8 Try.underlying31 hi hz0 hz1 hz2 rfl (by decide) (.slice p A.length c) A.length (zi A) hs hown ⟨b, ob, none⟩ l.length c' (zi l) hx (by rw [zi_len, Nat.mul_one]) (fun j u hj => ?_) (zi_one l) (by unfold maxLen; omega) (by omega) hsep.sz ?_
    · obtain ⟨hj1, hj2⟩ := List.getElem?_eq_some_iff.1 hj
      rw [zi_len] at hj1
      rw [Addr.add_mid, hc j hj1, ← hj2]
      simp [zi]
    · intro v' w' hown' hg hat
      obtain ⟨p2, c2, rfl⟩ := rowF_ hown'
      have hown2 : w'.ownsRow B 3 1 (.slice p2 (A ++ l).length c2) (A ++ l).length (zi (A ++ l)) := by
        rw [List.length_append]; simpa [zi] using hown'
      have hat2 : (Value.slice p2 (A ++ l).length c2).ownBlock = (Value.slice p A.length c).ownBlock ∨ (Value.slice p2 (A ++ l).length c2).ownBlock = some w.heap.size := by
        rw [List.length_append]; exact hat
      have hs2 := Sep.repAt (l₁ := L1) (x := rI (.slice p A.length c) A) (x' := rI (.slice p2 (A ++ l).length c2) (A ++ l)) hsep hg hown2 (fun b hb => hat2.elim (fun e => .inl (e.symm.trans hb)) fun e => .inr (by
        have h2 : (Value.slice p2 (A ++ l).length c2).ownBlock = some b := hb
        rw [e] at h2; cases h2; exact Nat.le_refl _))
      rw [← List.length_append]
      exact h p2 c2 w' hs2
theorem wp_app {o : Oper} {a : Act} {w : World} {K : Act → World → Prop} {Q : Exit → Act → World → Prop} (s x : Operand)
    (ho : o.op = .call { callee := .builtin .append, args := #[s, x], argTypes := #[31, 31] })
    {B : Nat} {w0 : World} (L1 : List It) {L2 : List It} {p p' : Option Addr} {c c' n m : Nat} {A l : List Int} (hs : a.eval s = .slice p n c) (hx : a.eval x = .slice p' m c') (hsep : Sep B w0 w (L1 ++ rI (.slice p n c) A :: L2))
    {D : Nat → Prop} (hl : m = l.length) (hiv : IV D w l (.slice p' l.length c')) (hm : A.length + l.length ≤ 1000000)
    (h : ∀ R, Hid (R = A ++ l) → ∀ p2 c2 w', Sep B w0 w' (L1 ++ rI (.slice p2 R.length c2) R :: L2) → K (a.put o.dst (.slice p2 R.length c2)) w') : o.wp Try.prog a w K Q :=
  wp_app0 s x ho L1 hs hx hsep hl hiv hm (h _ (Lib.hid rfl))
theorem wpList_app {ops : Array Oper} {rest : List Oper} {o : Oper} {a : Act} {w : World} {Q : Exit → Act → World → Prop} (hgd : o.guard = none) (s x : Operand)
    (ho : o.op = .call { callee := .builtin .append, args := #[s, x], argTypes := #[31, 31] })
    {B : Nat} {w0 : World} (L1 : List It) {L2 : List It} {p p' : Option Addr} {c c' n m : Nat} {A l : List Int} (hs : a.eval s = .slice p n c) (hx : a.eval x = .slice p' m c') (hsep : Sep B w0 w (L1 ++ rI (.slice p n c) A :: L2))
    {D : Nat → Prop} (hl : m = l.length) (hiv : IV D w l (.slice p' l.length c')) (hm : A.length + l.length ≤ 1000000)
    (h : ∀ R, Hid (R = A ++ l) → ∀ p2 c2 w', Sep B w0 w' (L1 ++ rI (.slice p2 R.length c2) R :: L2) → wpList Try.prog ops Q rest (a.put o.dst (.slice p2 R.length c2)) w') : wpList Try.prog ops Q (o :: rest) a w :=
  wpList_plain hgd fun K hK => wp_app s x ho L1 hs hx hsep hl hiv hm fun R hR p2 c2 w' hs => hK _ _ (h R hR p2 c2 w' hs)
/- What is told, by membership. -/
theorem mem_mW {s k : Nat} {x : Int} : x ∈ mW s k ↔ ∃ n : Nat, (n : Int) = x ∧ n < k ∧ s.testBit n = true := by
  unfold mW
  simp
  constructor
  · rintro ⟨n, ⟨h1, h2⟩, rfl⟩; exact ⟨n, rfl, h1, h2⟩
  · rintro ⟨n, rfl, h1, h2⟩; exact ⟨n, ⟨h1, h2⟩, rfl⟩
theorem mem_fir {g : Gr} {s x : Int} : x ∈ firL g s ↔ askV g s 0 = 0 ∧ 0 ≤ x ∧ x < 64 ∧ Beg g s x := by
  unfold firL
  split
  · rename_i h
    rw [mem_mW]
    constructor
    · rintro ⟨n, rfl, h1, h2⟩
      have h3 := (wd_test _ n).1 h2
      exact ⟨h, by omega, by omega, h3.2⟩
    · rintro ⟨_, h1, h2, h3⟩
      refine ⟨x.toNat, by omega, by omega, (wd_test _ _).2 ⟨by omega, ?_⟩⟩
      rwa [Int.toNat_of_nonneg h1]
  · rename_i h
    constructor
    · intro h2; cases h2
    · rintro ⟨h2, _⟩; exact absurd h2 h
theorem mem_fol {g : Gr} {s x : Int} : x ∈ folL g s ↔ askV g s 0 = 0 ∧ 0 ≤ x ∧ x < 64 ∧ Fol g s x := by
  unfold folL
  split
  · rename_i h
    rw [mem_mW]
    constructor
    · rintro ⟨n, rfl, h1, h2⟩
      have h3 := (wd_test _ n).1 h2
      exact ⟨h, by omega, by omega, h3.2⟩
    · rintro ⟨_, h1, h2, h3⟩
      refine ⟨x.toNat, by omega, by omega, (wd_test _ _).2 ⟨by omega, ?_⟩⟩
      rwa [Int.toNat_of_nonneg h1]
  · rename_i h
    constructor
    · intro h2; cases h2
    · rintro ⟨h2, _⟩; exact absurd h2 h
theorem fir_len (g : Gr) (s : Int) : (firL g s).length ≤ 64 := by
  unfold firL
  split
  · exact mW_len _ _
  · simp
theorem fol_len (g : Gr) (s : Int) : (folL g s).length ≤ 64 := by
  unfold folL
  split
  · exact mW_len _ _
  · simp
theorem ask_ok {g : Gr} {s f : Int} (h : askV g s f = 0) : GrOk g ∧ f ≤ s ∧ s < g.s := by
  unfold askV at h
  split at h
  · rename_i h2; exact absurd h h2
  · rename_i h2
    refine ⟨(chk_ok g).1 (Classical.not_not.1 h2), ?_⟩
    split at h
    · rename_i h3; exact h3
    · simp at h
theorem ask_of {g : Gr} (hg : GrOk g) {s f : Int} (h1 : f ≤ s) (h2 : s < g.s) : askV g s f = 0 := by
  unfold askV
  rw [if_neg (by rw [(chk_ok g).2 hg]; simp), if_pos ⟨h1, h2⟩]
theorem beg_rng {g : Gr} {s x : Int} (hn : NumOk g) (h : Beg g s x) : 0 ≤ x ∧ x < g.t := by
  induction h with
  | tm h0 h1 => exact ⟨h0, h1⟩
  | go _ _ _ ih => exact ih
theorem fol_rng {g : Gr} {s x : Int} (hn : NumOk g) (h : Fol g s x) : 0 ≤ x ∧ x ≤ g.t := by
  induction h with
  | fin => have := hn.t1; omega
  | nx _ _ hb => have := beg_rng hn hb; omega
  | last _ _ _ ih => exact ih
theorem mem_fir' {g : Gr} (hg : GrOk g) {s x : Int} (h1 : 0 ≤ s) (h2 : s < g.s) : x ∈ firL g s ↔ Beg g s x := by
  rw [mem_fir]
  have ht := hg.nm.t2
  exact ⟨fun h => h.2.2.2, fun h => by have := beg_rng hg.nm h; exact ⟨ask_of hg h1 h2, this.1, by omega, h⟩⟩
theorem mem_fol' {g : Gr} (hg : GrOk g) {s x : Int} (h1 : 0 ≤ s) (h2 : s < g.s) : x ∈ folL g s ↔ Fol g s x := by
  rw [mem_fol]
  have ht := hg.nm.t2
  exact ⟨fun h => h.2.2.2, fun h => by have := fol_rng hg.nm h; exact ⟨ask_of hg h1 h2, this.1, by omega, h⟩⟩
theorem mem_id {h : Int} {l : List Pr} {x : Int} : ∀ {k : Nat}, x ∈ idK h l k ↔ ∃ n : Nat, (n : Int) = x ∧ n < k ∧ (l[n]?.map fun p => p.hd) = some h
  | 0 => by simp [idK]
  | k + 1 => by
    rw [idK]
    split
    · rename_i hh
      rw [List.mem_append, mem_id (k := k), List.mem_singleton]
      constructor
      · rintro (⟨n, h1, h2, h3⟩ | rfl)
        · exact ⟨n, h1, by omega, h3⟩
        · exact ⟨k, rfl, by omega, hh⟩
      · rintro ⟨n, h1, h2, h3⟩
        rcases Nat.lt_or_ge n k with h4 | h4
        · exact .inl ⟨n, h1, h4, h3⟩
        · obtain rfl : n = k := by omega
          exact .inr h1.symm
    · rename_i hh
      rw [mem_id (k := k)]
      constructor
      · rintro ⟨n, h1, h2, h3⟩; exact ⟨n, h1, by omega, h3⟩
      · rintro ⟨n, h1, h2, h3⟩
        rcases Nat.lt_or_ge n k with h4 | h4
        · exact ⟨n, h1, h4, h3⟩
        · obtain rfl : n = k := by omega
          exact absurd h3 hh
end Go.Proofs.Ytpmkdpjcpimhkaa
