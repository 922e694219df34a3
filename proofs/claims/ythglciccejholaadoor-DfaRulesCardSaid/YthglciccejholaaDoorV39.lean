/- Texts of package regs, one behind the other. -/
import Derived.Test.YthglciccejholaaDoorProg
import Derived.Test.YthglciccejholaaDoorV37
import Derived.Test.YthglciccejholaaDoorV35
import Derived.Test.YthglciccejholaaDoorV38
import Derived.RangeFuncNested
import Derived.RangeFuncBound
import Derived.RangeFuncCalls
import Derived.RangeFuncLeaves
import Derived.RangeFuncBox
import Derived.Shelf.Abstract
import Derived.Shelf.RegionOpen
import Derived.WalkKit
import Derived.OwnWalkIn
import Derived.TacticsInMore
import Derived.LoopNIn
import Derived.LoopIn
import Derived.Below
import Derived.Lib.Hide
import Derived.Lib.Walk
section
/- Package dfa. -/
namespace Go.Proofs.YthglciccejholaaDoor
set_option linter.unusedSimpArgs false
set_option linter.unusedVariables false
set_option maxRecDepth 100000
open Go.RowKit Go.Shelf
/- What the automaton tells of a text. -/
open Go.Maps
/-- Where a byte leads, then free ways. -/
def Nx (ss : List Nst) (c : UInt8) (M : Nat → Prop) (x : Nat) : Prop := ∃ s, M s ∧ ∃ t, toOf hasU ss c s = some t ∧ Rt ss t x
def Nxs (ss : List Nst) : List UInt8 → (Nat → Prop) → Nat → Prop
  | [], M => M
  | c :: r, M => Nxs ss r (Nx ss c M)
theorem nxs_acc (ss : List Nst) : ∀ (t : List UInt8) (L : Nat → Prop) (x : Nat), Nxs ss t (fun x => ∃ a, L a ∧ Rt ss a x) x ↔ ∃ a, L a ∧ Acc hasU ss t a x
  | [], L, x => Iff.rfl
  | c :: r, L, x => by
    have e : Nx ss c (fun x => ∃ a, L a ∧ Rt ss a x) = fun x => ∃ u, (∃ s a, L a ∧ Rt ss a s ∧ toOf hasU ss c s = some u) ∧ Rt ss u x := by
      funext y
      apply propext
      constructor
      · rintro ⟨s, ⟨a, h1, h2⟩, t, h3, h4⟩; exact ⟨t, ⟨s, a, h1, h2, h3⟩, h4⟩
      · rintro ⟨t, ⟨s, a, h1, h2, h3⟩, h4⟩; exact ⟨s, ⟨a, h1, h2⟩, t, h3, h4⟩
    show Nxs ss r (Nx ss c fun x => ∃ a, L a ∧ Rt ss a x) x ↔ _
    rw [e, nxs_acc ss r]
    constructor
    · rintro ⟨u, ⟨s, a, h1, h2, h3⟩, h4⟩; exact ⟨a, h1, s, u, h2, h3, h4⟩
    · rintro ⟨a, h1, s, u, h2, h3, h4⟩; exact ⟨u, ⟨s, a, h1, h2, h3⟩, h4⟩
/-- A state stands for a set of states; nowhere, for one of which none is alive. -/
def Rel (ss : List Nst) (S : List (List Nat)) (k : Int) (M : Nat → Prop) : Prop := (k = -1 ∧ ∀ x, M x → ¬ x ∈ liveL ss) ∨ ∃ (i : Nat) (m : List Nat), k = (i : Int) ∧ S[i]? = some m ∧ ∀ x, x < 4096 → (x ∈ m ↔ M x)
theorem byL_so (ss : List Nst) {c : Nat} (hc : c < 256) : ∃ h : soF ss c < (byL ss 256).length, ∀ x, x < 4096 → (byL ss 256)[soF ss c] x = byF ss c x := by
  have hlt : soF ss c < (byL ss 256).length := by rw [byL_len]; exact soF_lt ss hc
  refine ⟨hlt, ?_⟩
  have h1 := idx_get (seen_mem (byK ss) 256 c hc)
  rw [← byL_keys, List.getElem?_map] at h1
  obtain ⟨f, h2, h3⟩ := Option.map_eq_some_iff.1 h1
  have h4 : (byL ss 256)[soF ss c]? = some f := by
    have e : soF ss c = idx ((byL ss 256).map kS) (byK ss c) := by unfold soF; rw [byL_keys]
    rw [e]; exact h2
  obtain ⟨h5, h6⟩ := List.getElem?_eq_some_iff.1 h4
  rw [h6]
  exact kS_iff.1 h3
theorem lead_congr (ss : List Nst) (f : Nat → Bool) {g g' : Nat → Bool} (h : ∀ x, x < 4096 → g x = g' x) : leadL ss f g = leadL ss f g' := by
  have e : (List.range 4096).filter (fun x => f x && g x) = (List.range 4096).filter (fun x => f x && g' x) := List.filter_congr fun x hx => by rw [h x (List.mem_range.1 hx)]
  unfold leadL
  rw [e]
theorem lead_so (ss : List Nst) {c : Nat} (hc : c < 256) (f : Nat → Bool) (h : soF ss c < (byL ss 256).length) : leadL ss f (byL ss 256)[soF ss c] = leadL ss f (byF ss c) := by
  obtain ⟨h1, h2⟩ := byL_so ss hc
  exact lead_congr ss f h2
/-- What is so of what Of found. -/
structure SemP (st : Nat) (ss : List Nst) (S : List (List Nat)) (N : List (List Int)) : Prop where
  ln : N.length = S.length
  le : S.length ≤ 2048
  pos : 0 < S.length
  s0 : ∃ m, S[0]? = some m ∧ ∀ x, x ∈ m ↔ Rt ss st x
  lt : ∀ m ∈ S, ∀ x ∈ m, x < ss.length
  tr : ∀ (i : Nat) (r : List Int), N[i]? = some r → ∃ l, S[i]? = some l ∧ Tr ss (mb (liveL ss)) (byL ss 256) S (mb l) (byL ss 256).length r
  bd : ∀ r ∈ N, r.length = (byL ss 256).length ∧ ∀ x ∈ r, -1 ≤ x ∧ x ≤ S.length
theorem sem_of {st : Nat} {ss : List Nst} {S : List (List Nat)} {N : List (List Int)} (hc : chkN (st : Int) ss = 0) (h : ofF (st : Int) ss = (true, S, N)) : SemP st ss S N := by
  have hs := sop_of hc
  obtain ⟨hn, -, hst, hi, -, -⟩ := chk_facts hc
  have hst' : st < ss.length := by omega
  have e : fnF ss (mb (liveL ss)) (byL ss 256) 2050 0 [goF ss (ss.length + 1) 0 [st]] [] = (true, S, N) := by rw [← h]; unfold ofF; rw [Int.toNat_natCast]
  have hg := goF_spec ss ss.length (inb_fr hi) (ss.length + 1) 0 [st] [st] (by simp) (by simpa using hst') (by omega) (by omega) (fun b hb => ⟨b, hb, .refl b⟩) (fun a ha => ha) (fun j hj => by omega)
  have hP := fnF_fin ss (mb (liveL ss)) (byL ss 256) (fun l => ∀ x ∈ l, x < ss.length) (fun f s h => hs.lead f s h) 2050 0 [goF ss (ss.length + 1) 0 [st]] [] (by omega) (by omega) (by simp) rfl (by simp) ⟨fun l hl => by
    simp only [List.mem_singleton] at hl
    subst hl
    exact goF_ltI hi (by simp) (by simpa using hst'), fun r hr => by simp at hr⟩ (by rw [e])
  have hT := fnF_tr ss (mb (liveL ss)) (byL ss 256) 2050 0 [goF ss (ss.length + 1) 0 [st]] [] rfl (fun i r hr => by simp at hr)
  rw [e] at hP hT
  obtain ⟨h1, h2, h3, h4⟩ := hP
  obtain ⟨h5, t, h6⟩ := hT
  simp only at h1 h2 h3 h4 h5 h6
  refine ⟨h1, h2, h3, ⟨_, by rw [h6]; rfl, fun x => ?_⟩, h4.ps, h5, h4.rl⟩
  rw [hg.2 x]
  simp
section
variable {st : Nat} {ss : List Nst} {S : List (List Nat)} {N : List (List Int)}
theorem cl_so (h : SemP st ss S N) : ∀ c d, c < 256 → d < 256 → (clsG (soF ss) N (fun _ => 0, 0)).1 c = (clsG (soF ss) N (fun _ => 0, 0)).1 d → ∀ r ∈ N, r.getD (soF ss c) 0 = r.getD (soF ss d) 0 := by
  have hne : N ≠ [] := fun e => by have h1 := h.ln; rw [e] at h1; have := h.pos; simp at h1; omega
  obtain ⟨hk, -⟩ := clsG_col (soF ss) hne (colF (soF ss) N) (fun c d _ _ => Iff.rfl)
  intro c d hc hd e r hr
  rw [hk c hc, hk d hd] at e
  have h2 := idx_inj (seen_mem (colF (soF ss) N) 256 c hc) e
  unfold colF at h2
  rw [List.map_inj_left] at h2
  exact h2 r hr
theorem cl_lt (h : SemP st ss S N) : (∀ c, c < 256 → (clsG (soF ss) N (fun _ => 0, 0)).1 c < (clsG (soF ss) N (fun _ => 0, 0)).2) ∧ (clsG (soF ss) N (fun _ => 0, 0)).2 ≤ 256 := by
  have hne := h.pos
  rw [← h.ln] at hne
  cases N with
  | nil => simp at hne
  | cons r rs => exact clsG_lt (soF ss) rs r _
/-- By a byte. -/
theorem cell_so (h : SemP st ss S N) {i : Nat} {r : List Int} (hr : N[i]? = some r) {c : Nat} (hc : c < 256) : cellAt (autX (soF ss) ss S N) i ((autX (soF ss) ss S N).cl c) = r.getD (soF ss c) 0 := by
  have hl := cl_lt h
  have hs := cl_so h
  unfold cellAt autX
  simp only [List.getElem?_map, hr, Option.map_some]
  generalize clsG (soF ss) N (fun _ => 0, 0) = g at *
  have hg := nxF_get g.1 (soF ss) r g.2 hl.1 (fun c d hc hd e => hs c d hc hd e r (List.mem_of_getElem? hr)) 256 (Nat.le_refl _) c hc
  have hln := nxF_len g.1 (soF ss) r g.2 256
  have hlt := hl.1 c hc
  rw [← hg]
  simp only [List.getD_eq_getElem?_getD]
  rw [List.getElem?_eq_getElem (by rw [hln]; exact hlt)]
  rfl
theorem rel_go (hck : chkN (st : Int) ss = 0) (h : SemP st ss S N) {k : Int} {M : Nat → Prop} (hM : ∀ x, M x → x < ss.length) (hr : Rel ss S k M) (c : UInt8) : Rel ss S (goD (autX (soF ss) ss S N) k c.toNat) (Nx ss c M) := by
  obtain ⟨hn, -, hst, hi, hto, -⟩ := chk_facts hck
  have hlv := live_all hi hto
  have hc : c.toNat < 256 := c.toNat_lt
  have ec : UInt8.ofNat c.toNat = c := by simp
  rcases hr with ⟨rfl, hd⟩ | ⟨i, m, rfl, hm, hx⟩
  · refine .inl ⟨by unfold goD; rw [if_pos (by decide)], ?_⟩
    rintro x ⟨s, hs, t, h1, h2⟩ hl
    exact hd s hs (hlv.wy c s t h1 (hlv.fr t x h2 hl))
  · obtain ⟨hi1, -⟩ := List.getElem?_eq_some_iff.1 hm
    have hi2 : i < N.length := by rw [h.ln]; exact hi1
    obtain ⟨l, hl, htr⟩ := h.tr i N[i] (List.getElem?_eq_getElem hi2)
    rw [hm] at hl
    cases hl
    obtain ⟨hso, -⟩ := byL_so ss hc
    have h1 := htr.tr (soF ss c.toNat) hso hso
    rw [lead_so ss hc (mb m) hso] at h1
    have hcell := cell_so h (List.getElem?_eq_getElem hi2) hc
    have hml : ∀ x, x ∈ leadL ss (mb m) (byF ss c.toNat) ↔ Nx ss c M x := fun x => by
      rw [mem_lead hn hi hto, ec]
      constructor
      · rintro ⟨s, hs, t, h2, h3⟩
        have := h.lt m (List.mem_of_getElem? hm) s hs
        exact ⟨s, (hx s (by omega)).1 hs, t, h2, h3⟩
      · rintro ⟨s, hs, t, h2, h3⟩
        have := hM s hs
        exact ⟨s, (hx s (by omega)).2 hs, t, h2, h3⟩
    unfold goD
    rw [if_neg (by omega), Int.toNat_natCast, hcell]
    cases ha : nmA (mb (liveL ss)) (leadL ss (mb m) (byF ss c.toNat)) with
    | false =>
      rw [h1.1 ha, if_pos (by decide)]
      refine .inl ⟨rfl, fun x hx2 hlx => ?_⟩
      unfold nmA at ha
      rw [List.any_eq_false] at ha
      exact ha x ((hml x).2 hx2) ((mb_iff _ _).2 hlx)
    | true =>
      obtain ⟨j, m2, h2, h3, h4⟩ := h1.2 ha
      rw [h3, if_neg (by omega)]
      exact .inr ⟨j, m2, rfl, h2, fun x hx2 => (h4 x hx2).trans (hml x)⟩
theorem rt_lt {ss : List Nst} (hi : InB ss) {a b : Nat} (h : Rt ss a b) (ha : a < ss.length) : b < ss.length := by
  induction h with
  | refl => exact ha
  | step _ x hx hc _ => rw [hc]; exact inb_fr hi _ x hx
theorem rel_walk (hck : chkN (st : Int) ss = 0) (h : SemP st ss S N) : ∀ (t : List UInt8) (k : Int) (M : Nat → Prop), (∀ x, M x → x < ss.length) → Rel ss S k M → Rel ss S (walkD (autX (soF ss) ss S N) k (t.map UInt8.toNat)) (Nxs ss t M)
  | [], k, M, _, hr => hr
  | c :: t, k, M, hM, hr => by
    obtain ⟨hn, -, hst, hi, hto, -⟩ := chk_facts hck
    refine rel_walk hck h t _ _ (fun x hx => ?_) (rel_go hck h hM hr c)
    obtain ⟨s, hs, u, h1, h2⟩ := hx
    refine rt_lt hi h2 ?_
    unfold toOf at h1
    cases e : ss[s]? with
    | none => rw [e] at h1; cases h1
    | some z =>
      rw [e] at h1
      simp only at h1
      split at h1
      · cases h1
        have := hto z (List.mem_of_getElem? e)
        omega
      · cases h1
/-- Where a text leads from the start. -/
theorem rel_text (hck : chkN (st : Int) ss = 0) (h : SemP st ss S N) (t : List UInt8) : Rel ss S (walkD (autX (soF ss) ss S N) 0 (t.map UInt8.toNat)) (fun x => Acc hasU ss t st x) := by
  obtain ⟨hn, -, hst, hi, hto, -⟩ := chk_facts hck
  obtain ⟨m, h1, h2⟩ := h.s0
  have h3 := rel_walk hck h t 0 (fun x => ∃ a, a = st ∧ Rt ss a x) (fun x hx => by
    obtain ⟨a, rfl, hr⟩ := hx
    exact rt_lt hi hr (by omega)) (.inr ⟨0, m, rfl, h1, fun x _ => by rw [h2 x]; simp⟩)
  have e : Nxs ss t (fun x => ∃ a, a = st ∧ Rt ss a x) = fun x => Acc hasU ss t st x := by
    funext x
    apply propext
    rw [nxs_acc]
    simp
  rw [e] at h3
  exact h3
end
end Go.Proofs.YthglciccejholaaDoor
end
section
/- Package dfa. -/
namespace Go.Proofs.YthglciccejholaaDoor
set_option linter.unusedSimpArgs false
set_option linter.unusedVariables false
set_option maxRecDepth 100000
open Go.RowKit Go.Shelf
/- The least rule. -/
open Go.Maps
theorem lstF_rl (ss : List Nst) (l : Int) (s : Nat) : lstF ss l s = if 0 ≤ rlOf ss s ∧ (l = -1 ∨ rlOf ss s < l) then rlOf ss s else l := by
  unfold lstF rlOf
  cases ss[s]? with
  | none => exact (show l = if 0 ≤ (-1 : Int) ∧ (l = -1 ∨ (-1 : Int) < l) then -1 else l from (by rw [if_neg (by omega)]))
  | some z => rfl
theorem lst_min (ss : List Nst) : ∀ (xs : List Nat) (l : Int), (l = -1 ∨ 0 ≤ l) →
    (xs.foldl (lstF ss) l = -1 ∧ l = -1 ∧ ∀ x ∈ xs, rlOf ss x < 0) ∨ (0 ≤ xs.foldl (lstF ss) l ∧ ((∃ x ∈ xs, rlOf ss x = xs.foldl (lstF ss) l) ∨ xs.foldl (lstF ss) l = l) ∧ (0 ≤ l → xs.foldl (lstF ss) l ≤ l) ∧ ∀ x ∈ xs, 0 ≤ rlOf ss x → xs.foldl (lstF ss) l ≤ rlOf ss x)
  | [], l, h => by
    rcases h with rfl | h
    · exact .inl ⟨rfl, rfl, by simp⟩
    · exact .inr ⟨h, .inr rfl, fun _ => Int.le_refl _, by simp⟩
  | x :: xs, l, h => by
    rw [List.foldl_cons, lstF_rl]
    by_cases hx : 0 ≤ rlOf ss x ∧ (l = -1 ∨ rlOf ss x < l)
    · rw [if_pos hx]
      rcases lst_min ss xs (rlOf ss x) (.inr hx.1) with ⟨h1, h2, -⟩ | ⟨h1, h2, h3, h4⟩
      · omega
      · refine .inr ⟨h1, .inl ?_, fun hl => ?_, fun y hy hy0 => ?_⟩
        · rcases h2 with ⟨y, hy, e⟩ | e
          · exact ⟨y, List.mem_cons_of_mem _ hy, e⟩
          · exact ⟨x, List.mem_cons_self .., e.symm⟩
        · have := h3 hx.1; omega
        · rcases List.mem_cons.1 hy with rfl | hy
          · exact h3 hx.1
          · exact h4 y hy hy0
    · rw [if_neg hx]
      rcases lst_min ss xs l h with ⟨h1, h2, h3⟩ | ⟨h1, h2, h3, h4⟩
      · refine .inl ⟨h1, h2, fun y hy => ?_⟩
        rcases List.mem_cons.1 hy with rfl | hy
        · omega
        · exact h3 y hy
      · refine .inr ⟨h1, ?_, h3, fun y hy hy0 => ?_⟩
        · rcases h2 with ⟨y, hy, e⟩ | e
          · exact .inl ⟨y, List.mem_cons_of_mem _ hy, e⟩
          · exact .inr e
        · rcases List.mem_cons.1 hy with rfl | hy
          · by_cases hl : l = -1
            · exact absurd ⟨hy0, .inl hl⟩ hx
            · have h0 : 0 ≤ l := by omega
              have := h3 h0
              have : ¬ rlOf ss y < l := fun g => hx ⟨hy0, .inr g⟩
              omega
          · exact h4 y hy hy0
theorem lstR_min (ss : List Nst) (xs : List Nat) : (lstR ss xs = -1 ∧ ∀ x ∈ xs, rlOf ss x < 0) ∨ (0 ≤ lstR ss xs ∧ (∃ x ∈ xs, rlOf ss x = lstR ss xs) ∧ ∀ x ∈ xs, 0 ≤ rlOf ss x → lstR ss xs ≤ rlOf ss x) := by
  unfold lstR
  rcases lst_min ss xs (-1) (.inl rfl) with ⟨h1, -, h3⟩ | ⟨h1, h2, -, h4⟩
  · exact .inl ⟨h1, h3⟩
  · refine .inr ⟨h1, ?_, h4⟩
    rcases h2 with h2 | h2
    · exact h2
    · omega
/-- The first of the rules, or -1. -/
def hd1 (l : List Int) : Int := l.head?.getD (-1)
theorem rules_hd (ss : List Nst) (l : List Nat) (q : Int) (h : (q = -1 ∧ ∀ x ∈ l, rlOf ss x < 0) ∨ (0 ≤ q ∧ q < 48 ∧ (∃ x ∈ l, rlOf ss x = q) ∧ ∀ x ∈ l, 0 ≤ rlOf ss x → q ≤ rlOf ss x)) : hd1 (rulesOf ss l) = q := by
  unfold hd1 rulesOf
  rw [List.head?_map, List.head?_filter]
  rcases h with ⟨rfl, h⟩ | ⟨h0, h48, ⟨x, hx, hq⟩, h⟩
  · have e : (List.range 48).find? (fun (r : Nat) => l.any fun s => decide (rlOf ss s = (r : Int))) = none := by
      rw [List.find?_eq_none]
      intro r _ hr
      obtain ⟨x, hx, he⟩ := List.any_eq_true.1 hr
      have := h x hx
      have := of_decide_eq_true he
      omega
    rw [e]; rfl
  · have e : (List.range 48).find? (fun (r : Nat) => l.any fun s => decide (rlOf ss s = (r : Int))) = some q.toNat := by
      rw [List.find?_range_eq_some]
      refine ⟨List.any_eq_true.2 ⟨x, hx, by rw [decide_eq_true_eq, hq]; omega⟩, List.mem_range.2 (by omega), fun j hj => ?_⟩
      rw [Bool.not_eq_true', Bool.eq_false_iff]
      intro hr
      obtain ⟨y, hy, he⟩ := List.any_eq_true.1 hr
      have he := of_decide_eq_true he
      have := h y hy (by omega)
      omega
    rw [e]
    show ((q.toNat : Nat) : Int) = q
    omega
section
variable {st : Nat} {ss : List Nst} {S : List (List Nat)} {N : List (List Int)}
theorem rl_bd (hck : chkN (st : Int) ss = 0) (x : Nat) : rlOf ss x < 48 := by
  obtain ⟨-, -, -, -, -, hrl⟩ := chk_facts hck
  unfold rlOf
  cases e : ss[x]? with
  | none => decide
  | some z => exact hrl z (List.mem_of_getElem? e)
theorem rl_live (hck : chkN (st : Int) ss = 0) {x : Nat} (h : ¬ x ∈ liveL ss) : rlOf ss x < 0 := by
  obtain ⟨-, -, -, hi, hto, -⟩ := chk_facts hck
  unfold rlOf
  cases e : ss[x]? with
  | none => decide
  | some z =>
    obtain ⟨hx, rfl⟩ := List.getElem?_eq_some_iff.1 e
    rcases Int.lt_or_le ss[x].rl 0 with h1 | h1
    · exact h1
    · exact absurd ((live_all hi hto).rl x hx h1) h
theorem rel_rule (hck : chkN (st : Int) ss = 0) (h : SemP st ss S N) {k : Int} {M : Nat → Prop} {l : List Nat} (hl : ∀ x, x ∈ l ↔ M x) (hlt : ∀ x ∈ l, x < ss.length) (hr : Rel ss S k M) : rlAt (autX (soF ss) ss S N) k = hd1 (rulesOf ss l) := by
  obtain ⟨hn, -⟩ := chk_facts hck
  symm
  rcases hr with ⟨rfl, hd⟩ | ⟨i, m, rfl, hm, hx⟩
  · have e : rlAt (autX (soF ss) ss S N) (-1) = -1 := by unfold rlAt; rw [if_pos (by decide)]
    rw [e]
    exact rules_hd ss l (-1) (.inl ⟨rfl, fun x hx => rl_live hck (hd x ((hl x).1 hx))⟩)
  · have e : (autX (soF ss) ss S N).rl.getD i (-1) = lstR ss ((List.range 4096).filter (mb m)) := by
      unfold autX
      simp only [List.getD_eq_getElem?_getD, List.getElem?_map, hm, Option.map_some, Option.getD_some]
    have hmem : ∀ x, x ∈ (List.range 4096).filter (mb m) ↔ x ∈ l := fun x => by
      rw [List.mem_filter, List.mem_range, mb_iff]
      constructor
      · rintro ⟨h1, h2⟩; exact (hl x).2 ((hx x h1).1 h2)
      · intro h1
        have := hlt x h1
        exact ⟨by omega, (hx x (by omega)).2 ((hl x).1 h1)⟩
    have hmin := lstR_min ss ((List.range 4096).filter (mb m))
    unfold rlAt
    rw [if_neg (by omega), Int.toNat_natCast, e]
    generalize lstR ss ((List.range 4096).filter (mb m)) = q at *
    rcases hmin with ⟨rfl, h1⟩ | ⟨h0, ⟨x, h1, h2⟩, h3⟩
    · rw [if_pos (by decide)]
      exact rules_hd ss l (-1) (.inl ⟨rfl, fun x hx => h1 x ((hmem x).2 hx)⟩)
    · rw [if_neg (by omega)]
      exact rules_hd ss l q (.inr ⟨h0, by rw [← h2]; exact rl_bd hck x, ⟨x, (hmem x).1 h1, h2⟩, fun x hx => h3 x ((hmem x).2 hx)⟩)
theorem nxF_mem (cl so : Nat → Nat) (row : List Int) (m : Nat) : ∀ k, ∀ x ∈ nxF cl so row m k, x = 0 ∨ ∃ c, c < k ∧ x = row.getD (so c) 0
  | 0, x, h => by
    unfold nxF at h
    simp only [List.range_zero, List.foldl_nil, List.mem_replicate] at h
    exact .inl h.2
  | k + 1, x, h => by
    rw [nxF_succ] at h
    rcases List.mem_or_eq_of_mem_set h with h | h
    · rcases nxF_mem cl so row m k x h with h | ⟨c, h1, h2⟩
      · exact .inl h
      · exact .inr ⟨c, by omega, h2⟩
    · exact .inr ⟨k, by omega, h⟩
theorem getD_mem {l : List Int} {i : Nat} : l.getD i 0 = 0 ∨ l.getD i 0 ∈ l := by
  rw [List.getD_eq_getElem?_getD]
  cases e : l[i]? with
  | none => exact .inl rfl
  | some y => exact .inr (List.mem_of_getElem? e)
theorem row_lt (h : SemP st ss S N) (htr : ∀ r ∈ N, ∀ x ∈ r, x < (S.length : Int)) : ∀ r ∈ (autX (soF ss) ss S N).nx, r.length = (clsG (soF ss) N (fun _ => 0, 0)).2 ∧ ∀ x ∈ r, x < (S.length : Int) := by
  intro r hr
  unfold autX at hr
  simp only at hr
  obtain ⟨r0, h0, rfl⟩ := List.mem_map.1 hr
  have hp := h.pos
  refine ⟨nxF_len .., fun x hx => ?_⟩
  rcases nxF_mem _ _ _ _ _ x hx with rfl | ⟨c, -, rfl⟩
  · omega
  · rcases getD_mem (l := r0) (i := soF ss c) with e | e
    · rw [e]; omega
    · exact htr r0 h0 _ e
theorem tr_lt (h : SemP st ss S N) : ∀ r ∈ N, ∀ x ∈ r, x < (S.length : Int) := by
  intro r hr x hx
  obtain ⟨i, hi, rfl⟩ := List.getElem_of_mem hr
  obtain ⟨l, -, htr⟩ := h.tr i N[i] (List.getElem?_eq_getElem hi)
  obtain ⟨s, hs, rfl⟩ := List.getElem_of_mem hx
  have hp := h.pos
  generalize byL ss 256 = bys at htr
  have hsl : s < bys.length := by have h9 := htr.ln; omega
  have e : N[i].getD s 0 = N[i][s] := by simp [List.getD, hs]
  have h1 := htr.tr s hsl hsl
  rw [e] at h1
  cases ha : nmA (mb (liveL ss)) (leadL ss (mb l) bys[s]) with
  | false => rw [h1.1 ha]; omega
  | true =>
    obtain ⟨j, m, h2, h3, -⟩ := h1.2 ha
    have := (List.getElem?_eq_some_iff.1 h2).1
    rw [h3]; omega
/-- What was made may be. -/
theorem sem_chk (hck : chkN (st : Int) ss = 0) (h : SemP st ss S N) : chkD (autX (soF ss) ss S N) = 0 := by
  have hp := h.pos
  have hle := h.le
  have hln := h.ln
  obtain ⟨hcl, hc2⟩ := cl_lt h
  have hrow := row_lt h (tr_lt h)
  have hnl : (autX (soF ss) ss S N).nx.length = S.length := by unfold autX; simp only [List.length_map]; exact hln
  have hrl : (autX (soF ss) ss S N).rl.length = S.length := by unfold autX; simp only [List.length_map]
  have hrl2 : ∀ q ∈ (autX (soF ss) ss S N).rl, q < 48 := by
    intro q hq
    unfold autX at hq
    simp only at hq
    obtain ⟨m, -, rfl⟩ := List.mem_map.1 hq
    rcases lstR_min ss ((List.range 4096).filter (mb m)) with ⟨e, -⟩ | ⟨-, ⟨x, -, e⟩, -⟩
    · rw [e]; decide
    · rw [← e]; exact rl_bd hck x
  have hcl2 : ∀ i, (autX (soF ss) ss S N).cl i = (clsG (soF ss) N (fun _ => 0, 0)).1 i := fun i => rfl
  have hst : (autX (soF ss) ss S N).st = 0 := rfl
  generalize autX (soF ss) ss S N = d at *
  have hr0 : (row0 d).length = (clsG (soF ss) N (fun _ => 0, 0)).2 := by
    unfold row0
    cases e : d.nx with
    | nil => rw [e] at hnl; simp at hnl; omega
    | cons r rs => exact (hrow r (by rw [e]; exact List.mem_cons_self ..)).1
  unfold chkD
  have ht : tooD d = false := by
    unfold tooD
    rw [hnl, hrl]
    simp
    omega
  have hm : mayD d = true := by
    unfold mayD d7_stOk clsOk rowsOk rowOk rlsOk
    simp only [Bool.and_eq_true, decide_eq_true_eq, List.all_eq_true, List.mem_range]
    refine ⟨by omega, ⟨by omega, by omega⟩, ⟨by omega, fun i hi => ?_⟩, fun r hr => ⟨?_, fun x hx => ?_⟩, hrl2⟩
    · rw [hr0, hcl2]; exact hcl i hi
    · rw [hr0]; exact (hrow r hr).1
    · rw [hnl]; exact (hrow r hr).2 x hx
  rw [ht, hm]; rfl
/-- DfaTells' mathematics. -/
theorem tells_math (hck : chkN (st : Int) ss = 0) (h : SemP st ss S N) (t : List UInt8) : ruleF (autX (soF ss) ss S N) (t.map UInt8.toNat) = (hd1 (accL hasU (st : Int) ss t), 0) := by
  obtain ⟨hn, -, hst, hi, hto, -⟩ := chk_facts hck
  have hm : mayN (st : Int) ss = true := by
    unfold chkN at hck
    split at hck
    · cases hck
    · split at hck
      · rename_i h2; exact h2
      · cases hck
  obtain ⟨hf, -, -⟩ := mayN_fine hm
  have hst' : st < ss.length := by omega
  have hmem := mem_acc (has := hasU) hf hst' t
  have hlt : ∀ x, Acc hasU ss t st x → x < ss.length := fun x hx => by
    have h1 : ∀ (t : List UInt8) (a b : Nat), a < ss.length → Acc hasU ss t a b → b < ss.length := fun t => by
      induction t with
      | nil => intro a b ha hr; exact Rt.lt hf hr ha
      | cons c r ih =>
        intro a b ha hr
        obtain ⟨s, u, h1, h2, h3⟩ := hr
        exact ih u b (hf.to _ _ _ _ h2) h3
    exact h1 t st x hst' hx
  unfold ruleF
  rw [if_neg (by rw [sem_chk hck h]; decide)]
  have e := rel_rule hck h (l := runB hasU ss t (goF ss (ss.length + 1) 0 [st])) (fun x => hmem x) (fun x hx => hlt x ((hmem x).1 hx)) (rel_text hck h t)
  have hst0 : (autX (soF ss) ss S N).st = 0 := rfl
  rw [hst0, e]
  unfold accL
  rw [Int.toNat_natCast]
end
end Go.Proofs.YthglciccejholaaDoor
end
