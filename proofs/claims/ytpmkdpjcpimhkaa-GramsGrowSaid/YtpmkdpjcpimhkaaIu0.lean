/- Package grams. -/
import Derived.Test.YtpmkdpjcpimhkaaProg
import Derived.Test.YtpmkdpjcpimhkaaIs0
import Derived.Deep.SlicePairs
import Derived.Deep.Slices
import Derived.Laws.IdiomArrays
import Derived.OpenShut
import Derived.WideBlind
import Derived.Great.BuildSlice
import Derived.WalkKit
import Derived.Maps.OwnSet
import Derived.Maps.OwnOps
import Derived.Maps.Own
import Derived.DeepKeys5
import Derived.BigFrame
import Derived.WalkMore
import Derived.ScopeJumps
import Derived.StillTailTactics
import Derived.Stop.BytesEq
import Derived.WalkLawsBesides
import Derived.WalkSpells
import Derived.Outline
import Derived.Lib.Walk
import Derived.Lib.Hide
import Derived.Lib.Slices
import Derived.Lib.Strings
import Derived.RegionTactic
import Derived.LoopTactic
import Derived.Below
import Derived.IntWalk
import Derived.Deep.QuietTactic
import Derived.BigQuiet
import Derived.Deep.MidRow
import Derived.Maps.AppendAt
import Derived.Laws.Rows
import Derived.Laws.Tables
import Derived.Deep.WholeRow
import Derived.Deep.Cut
import Derived.Deep.CutRange
import Derived.Lib.SliceRun
import Derived.Laws.MakeOwn
import Derived.Deep.RegionLaw
import Derived.Deep.RegionLawGrows
import Derived.Deep.RegionHeld3
import Derived.RegionCalls
import Derived.Deep.RegionWith
import Derived.Deep.Light
import Derived.Laws.CopyOwn
import Derived.Laws.ResultCell
namespace Go.Proofs.Ytpmkdpjcpimhkaa
set_option linter.unusedSimpArgs false
set_option linter.unusedVariables false
set_option maxRecDepth 100000
open Go.RowKit
/- Productions as a row; more of them. -/
open Go.Maps Go.Deep Go.ChangeShapes Go.WideShapes
theorem zs_of {D : Nat → Prop} {w : World} {ps : List Pr} {p : Option Addr} (h : GM D w ps p) : ∃ zs : List Zp, zs.map (fun z => z.1) = ps ∧ ZOk D w zs ∧ (ps ≠ [] → ∃ b o, p = some ⟨b, o, none⟩ ∧ D b ∧ ∀ j v, (zP zs)[j]? = some v → w.cell? ((⟨b, o, none⟩ : Addr).add j) = some v) := by
  by_cases hne : ps = []
  · exact ⟨[], by rw [hne]; rfl, (fun z hz => by cases hz), fun h => absurd hne h⟩
  · obtain ⟨b, o, hp, hD, hc⟩ := h.pv hne
    have : Inhabited (Option Addr × Nat) := ⟨(none, 0)⟩
    have each : ∀ i, i < ps.length → ∃ y : Option Addr × Nat, ∀ hi : i < ps.length, w.cell? ⟨b, o + i * 3, none⟩ = some (.int .i64 ps[i].hd) ∧ w.cell? ⟨b, o + i * 3 + 1, none⟩ = some (.slice y.1 ps[i].bd.length y.2) ∧ w.cell? ⟨b, o + i * 3 + 2, none⟩ = some (.bool ps[i].rt) ∧ IV D w ps[i].bd (.slice y.1 ps[i].bd.length y.2) ∧ ps[i].bd.length ≤ y.2 := fun i hi => by
      obtain ⟨q, c, h1⟩ := hc i hi
      exact ⟨(q, c), fun _ => h1⟩
    obtain ⟨q, hq⟩ := choose_lt each
    have hlen : ((List.range ps.length).map fun i => ((ps.getD i ⟨0, [], false⟩, q i) : Zp)).length = ps.length := by simp
    have hget : ∀ i (hi : i < ps.length), ((List.range ps.length).map fun i => ((ps.getD i ⟨0, [], false⟩, q i) : Zp))[i]'(by rw [hlen]; exact hi) = (ps[i], q i) := fun i hi => by
      simp [List.getD_eq_getElem?_getD, List.getElem?_eq_getElem hi]
    refine ⟨(List.range ps.length).map fun i => (ps.getD i ⟨0, [], false⟩, q i), ?_, fun z hz => ?_, fun _ => ⟨b, o, hp, hD, fun j v hj => ?_⟩⟩
    · apply List.ext_getElem
      · simp
      · intro i h1 h2
        rw [List.getElem_map, hget i h2]
    · obtain ⟨i, hi, rfl⟩ := List.getElem_of_mem hz
      have hi2 : i < ps.length := by rw [hlen] at hi; exact hi
      rw [hget i hi2]
      obtain ⟨_, _, _, h4, h5⟩ := hq i hi2 hi2
      exact ⟨h4, h.bl _ (List.getElem_mem hi2), h5⟩
    · have hjl := (List.getElem?_eq_some_iff.1 hj).1
      have hzl : ∀ zs : List Zp, (zP zs).length = zs.length * 3 := fun zs => by
        induction zs with
        | nil => rfl
        | cons z zs ih =>
          have e : zP (z :: zs) = .int .i64 z.1.hd :: .slice z.2.1 z.1.bd.length z.2.2 :: .bool z.1.rt :: zP zs := rfl
          rw [e]; simp only [List.length_cons, ih]; omega
      rw [hzl, hlen] at hjl
      have hi2 : j / 3 < ps.length := by omega
      obtain ⟨e1, e2, e3⟩ := zP_get ((List.range ps.length).map fun i => ((ps.getD i ⟨0, [], false⟩, q i) : Zp)) (j / 3) (by rw [hlen]; exact hi2)
      rw [hget _ hi2] at e1 e2 e3
      obtain ⟨h1, h2, h3, _, _⟩ := hq _ hi2 hi2
      rw [Addr.add_mid]
      rcases (by omega : j = j / 3 * 3 ∨ j = j / 3 * 3 + 1 ∨ j = j / 3 * 3 + 2) with h0 | h0 | h0
      · rw [h0] at hj
        rw [e1] at hj
        rw [h0, ← hj]; exact h1
      · rw [h0] at hj
        rw [e2] at hj
        rw [h0, ← hj, ← Nat.add_assoc]; exact h2
      · rw [h0] at hj
        rw [e3] at hj
        rw [h0, ← hj, ← Nat.add_assoc]; exact h3
theorem zP_len : ∀ zs : List Zp, (zP zs).length = zs.length * 3
  | [] => rfl
  | z :: zs => by
    have e : zP (z :: zs) = .int .i64 z.1.hd :: .slice z.2.1 z.1.bd.length z.2.2 :: .bool z.1.rt :: zP zs := rfl
    rw [e]; simp only [List.length_cons, zP_len zs]; omega
theorem zP_one (zs : List Zp) : ∀ v ∈ zP zs, v.oneCell' = true := by
  intro v hv
  unfold zP at hv
  obtain ⟨z, _, hv⟩ := List.mem_flatMap.1 hv
  simp at hv
  rcases hv with rfl | rfl | rfl <;> rfl
def moG (g : Gr) (r : Pr) : Gr := ⟨g.t, g.s, g.st, g.ps ++ [r]⟩
theorem mo_to (g : Gr) (r : Pr) : SubG g (moG g r) := ⟨rfl, rfl, rfl, fun p hp => ⟨p, List.mem_append_left _ hp, rfl, rfl⟩⟩
theorem mo_fir {g : Gr} {r : Pr} {s : Int} (h : askV (moG g r) s 0 = 0) : ((firL g s).all fun x => decide (x ∈ firL (moG g r) s)) = true := List.all_eq_true.2 fun x hx => decide_eq_true (by
  obtain ⟨_, h1, h2, h3⟩ := mem_fir.1 hx
  exact mem_fir.2 ⟨h, h1, h2, (mo_to g r).beg h3⟩)
theorem mo_fol {g : Gr} {r : Pr} {s : Int} (h : askV (moG g r) s 0 = 0) : ((folL g s).all fun x => decide (x ∈ folL (moG g r) s)) = true := List.all_eq_true.2 fun x hx => decide_eq_true (by
  obtain ⟨_, h1, h2, h3⟩ := mem_fol.1 hx
  exact mem_fol.2 ⟨h, h1, h2, (mo_to g r).fol h3⟩)
/-- Productions behind a new row of nothing. -/
theorem wp_prods {o : Oper} {a : Act} {w : World} {K : Act → World → Prop} {Q : Exit → Act → World → Prop} (s x : Operand)
    (ho : o.op = .call { callee := .builtin .append, args := #[s, x], argTypes := #[22, 22] })
    {B : Nat} {w0 : World} (L1 : List It) {L2 : List It} {b c n : Nat} {p : Option Addr} {zs : List Zp} (hs : a.eval s = .slice (some ⟨b, 0, none⟩) 0 0) (hx : a.eval x = .slice p n c) (hsep : Sep B w0 w (L1 ++ rP (.slice (some ⟨b, 0, none⟩) ([] : List Zp).length 0) [] :: L2))
    (hn : n = zs.length) (hc : zs ≠ [] → ∃ b o, p = some ⟨b, o, none⟩ ∧ ∀ j v, (zP zs)[j]? = some v → w.cell? ((⟨b, o, none⟩ : Addr).add j) = some v) (hm : zs.length ≤ 1000000)
    (h : ∀ p2 c2 w', Sep B w0 w' (L1 ++ rP (.slice p2 zs.length c2) zs :: L2) → K (a.put o.dst (.slice p2 zs.length c2)) w') : o.wp Try.prog a w K Q := by
  obtain ⟨i0, hi, hz0, hz1, hz2⟩ := info_parts info38b
  have hown : w.ownsRow B 38 3 (.slice (some ⟨b, 0, none⟩) 0 0) 0 (zP []) := hsep.li (rP (.slice (some ⟨b, 0, none⟩) ([] : List Zp).length 0) []) (by simp)
  by_cases hne : zs = []
  · subst hne
    have hr := run_append_zero (P := Try.prog) w 22 o.type 38 i0 Try.underlying22 hi ⟨b, 0, none⟩ 0 0 p c (Nat.le_refl _)
    unfold Oper.wp execOp
    have hn0 : n = 0 := hn
    simp only [ho, resolve, invoke, builtin, Sem.run_bind, Sem.run_pure, Result.andThen_ok, List.map_toArray, List.map_cons, List.map_nil, hs, hx, hn0, hr]
    exact h _ _ w hsep
  · obtain ⟨b9, o9, rfl, hcc⟩ := hc hne
    refine wp_append_own s x 22 ho B 38 i0 (.agg #[.int .i64 0, .slice none 0 0, .bool false]) 3 40 Try.underlying22 hi hz0 hz1 hz2 rfl (by decide) (.slice (some ⟨b, 0, none⟩) 0 0) 0 (zP []) hs hown ⟨b9, o9, none⟩ zs.length c (zP zs) (by rw [hx, hn]) (zP_len zs) hcc (zP_one zs) (by unfold maxLen; omega) (by omega) hsep.sz ?_
    intro v' w' hown' hg hat
    obtain ⟨p2, c2, hv'⟩ := rowF_ hown'
    rw [Nat.zero_add] at hv'
    subst hv'
    have hown2 : w'.ownsRow B 38 3 (.slice p2 zs.length c2) zs.length (zP zs) := by
      have e : zP [] ++ zP zs = zP zs := rfl
      rw [Nat.zero_add, e] at hown'; exact hown'
    have hs2 := Sep.repAt (l₁ := L1) (x := rP (.slice (some ⟨b, 0, none⟩) ([] : List Zp).length 0) []) (x' := rP (.slice p2 zs.length c2) zs) hsep hg hown2 (fun b hb => hat.elim (fun e => .inl (e.symm.trans hb)) fun e => .inr (by
      have h2 : (Value.slice p2 zs.length c2).ownBlock = some b := hb
      rw [e] at h2; cases h2; exact Nat.le_refl _))
    exact h p2 c2 w' hs2
end Go.Proofs.Ytpmkdpjcpimhkaa
