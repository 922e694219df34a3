import Derived.Test.YtmjojahkbjlcdaaDoorProg
import Derived.Test.YtmjojahkbjlcdaaDoorX3
import Derived.Test.YtmjojahkbjlcdaaDoorX4
import Derived.WalkKit
import Derived.WalkLawsBesides
import Derived.WalkSpells
import Derived.Outline
import Derived.Lib.Walk
import Derived.Lib.Hide
import Derived.RegionTactic
import Derived.LoopTactic
import Derived.Below
import Derived.IntWalk
import Derived.Deep.QuietTactic
import Derived.BigQuiet
import Derived.Test.YtmjojahkbjlcdaaDoorG56
import Derived.Test.YtmjojahkbjlcdaaDoorG57
namespace Go.Proofs.YtmjojahkbjlcdaaDoor
set_option linter.unusedSimpArgs false
set_option linter.unusedVariables false
set_option maxRecDepth 100000
open Go.RowKit

/- What any tree's own text is read as. -/
mutual
/-- A tree that can be printed. -/
def mfT : RT → Prop
  | .mk k _ ps => (((k = 0 ∨ k = 1 ∨ k = 2) ∧ ps = []) ∨ ((k = 3 ∨ k = 4) ∧ 1 ≤ ps.length) ∨ ((k = 5 ∨ k = 6 ∨ k = 7) ∧ ps.length = 1)) ∧ mfL ps
def mfL : List RT → Prop
  | [] => True
  | t :: ts => mfT t ∧ mfL ts
end
mutual
/-- What a tree's text is read as. -/
def rdT : RT → RT
  | .mk k u ps => if k = 0 then setT (rdU noS) else if k = 2 then setT (rdU (fOf u)) else if k = 3 then joinT 3 (rdL ps) else if k = 4 then joinT 4 (rdL ps) else .mk k u0 (rdL ps)
def rdL : List RT → List RT
  | [] => []
  | t :: ts => rdT t :: rdL ts
end
theorem mfL_mem : ∀ {ts : List RT} {t : RT}, mfL ts → t ∈ ts → mfT t
  | a :: ts, t, h, g => by
    rw [mfL] at h
    rcases List.mem_cons.1 g with rfl | g
    · exact h.1
    · exact mfL_mem h.2 g
theorem rdL_len : ∀ (ts : List RT), (rdL ts).length = ts.length
  | [] => rfl
  | t :: ts => by rw [rdL, List.length_cons, List.length_cons, rdL_len ts]
def ThM (t : RT) : Prop := ∀ n y, (itmT t).length ≤ n → thingF (chc n) (itmT t ++ y) = .ok (reps (rdT t) y)
def RwM (t : RT) : Prop := ∀ n y, (prtT t).length ≤ n → stopY y → rowF (chc n) (prtT t ++ y) = .ok (rdT t, y)
def WhM (t : RT) : Prop := wholeF (wrT t) = .ok (rdT t)
def AllM (t : RT) : Prop := ThM t ∧ goodH (itmT t) ∧ RwM t ∧ WhM t
theorem thm_of_wh {t : RT} (he : encB 3 (kindT t) = true) (h : WhM t) : ThM t ∧ goodH (itmT t) := by
  have e : itmT t = 40 :: (wrT t ++ [41]) := by unfold itmT; rw [he]; simp
  constructor
  · intro n y hn
    rw [e] at hn ⊢
    have hn2 : (wrT t).length + 1 ≤ n := by simp at hn; omega
    have h2 : chc n (wrT t ++ 41 :: y) = .ok (rdT t, 41 :: y) := chc_ex y _ n hn2 _ _ _ (chc_of_whole h)
    rw [show (40 :: (wrT t ++ [41])) ++ y = 40 :: (wrT t ++ 41 :: y) by simp]
    unfold thingF
    have ha : atomF (chc n) (40 :: (wrT t ++ 41 :: y)) = .ok (rdT t, y) := by
      unfold atomF
      rw [if_pos (by rfl)]
      simp only [List.tail_cons]
      rw [h2]
    rw [ha]
  · rw [e]; exact ⟨40, _, rfl, by decide, by decide, by decide, by decide, by decide⟩
theorem thgm_items : ∀ (ps : List RT), (∀ p ∈ ps, ThM p ∧ goodH (itmT p)) → ∀ (n k : Nat) (fs : Bool) (ts : List RT) (y : List UInt8), (wrL 3 [] fs ps).length ≤ n → (wrL 3 [] fs ps).length < k → stopY y →
    thgs (chc n) k ts (wrL 3 [] fs ps ++ y) = .ok (ts ++ rdL ps, y)
  | [], _, n, k, fs, ts, y, hn, hk, hy => by
    rw [wrL_nil] at hk ⊢
    obtain ⟨k, rfl⟩ : ∃ j, k = j + 1 := ⟨k - 1, by simp at hk; omega⟩
    rw [rdL, List.append_nil, List.nil_append]
    rcases hy with rfl | ⟨c, r, rfl, hc⟩
    · rw [thgs]
    · rw [thgs, if_pos (by rcases hc with rfl | rfl <;> rfl)]
  | p :: ps, hp, n, k, fs, ts, y, hn, hk, hy => by
    obtain ⟨h1, h2⟩ := hp p (List.mem_cons_self ..)
    rw [wrL_ne (by decide)] at hn hk ⊢
    rw [List.length_append] at hn hk
    have h3 := h1 n (wrL 3 [] false ps ++ y) (by omega)
    have hr : ahl rps (wrL 3 [] false ps ++ y) = false := by
      cases ps with
      | nil => rw [wrL_nil]; exact hy.reps
      | cons q ps =>
        rw [wrL_ne (by decide), List.append_assoc]
        exact (hp q (by simp)).2.reps
    rw [reps_stop hr] at h3
    rw [List.append_assoc]
    obtain ⟨c, q, e, _, _, _, h124, h41⟩ := h2
    rw [e] at hn hk h3 ⊢
    obtain ⟨k, rfl⟩ : ∃ j, k = j + 1 := ⟨k - 1, by simp at hk; omega⟩
    rw [List.cons_append] at h3 ⊢
    rw [thgs, if_neg (by simp [h124, h41]), h3]
    simp only
    rw [thgm_items ps (fun x hx => hp x (List.mem_cons_of_mem _ hx)) n k false (ts ++ [rdT p]) y (by simp at hn; omega) (by simp at hk; omega) hy, rdL]
    simp
theorem rwm_of_th {t : RT} (h1 : kindT t ≠ 1) (h3 : kindT t ≠ 3) (h : ThM t) (hg : goodH (itmT t)) : RwM t := by
  intro n y hn hy
  have e : prtT t = itmT t := by
    unfold prtT itmT encB
    rw [if_pos rfl, if_neg (by decide), show (kindT t == 1) = false by simpa using h1, show (kindT t == 3) = false by simpa using h3]
    rfl
  rw [e] at hn ⊢
  have hw : wrL 3 [] true [t] = itmT t := by rw [wrL_ne (by decide), wrL_nil, List.append_nil]
  have := thgm_items [t] (fun p hp => by rw [List.mem_singleton.1 hp]; exact ⟨h, hg⟩) n ((itmT t ++ y).length + 1) true [] y (by rw [hw]; exact hn) (by rw [hw, List.length_append]; omega) hy
  rw [hw] at this
  unfold rowF
  rw [this]
  rfl
theorem whm_of_rw {t : RT} (h4 : kindT t ≠ 4) (h : RwM t) : WhM t := by
  have e : prtT t = wrT t := by
    unfold prtT encB
    rw [if_pos rfl, show (kindT t == 4) = false by simpa using h4]
    rfl
  have := h (wrT t).length [] (by rw [e]; exact Nat.le_refl _) (.inl rfl)
  rw [e, List.append_nil] at this
  exact whole_row this
theorem altm_items : ∀ (ps : List RT), (∀ p ∈ ps, RwM p) → ∀ (n k : Nat) (ts : List RT), (wrL 4 [124] false ps).length ≤ n → (wrL 4 [124] false ps).length < k →
    alts (chc n) k ts (wrL 4 [124] false ps) = .ok (ts ++ rdL ps, [])
  | [], _, n, k, ts, hn, hk => by
    rw [wrL_nil] at hk ⊢
    obtain ⟨k, rfl⟩ : ∃ j, k = j + 1 := ⟨k - 1, by simp at hk; omega⟩
    rw [alts, if_neg (by simp), rdL, List.append_nil]
  | p :: ps, hp, n, k, ts, hn, hk => by
    rw [wrL_4] at hn hk ⊢
    simp only [cond_false, List.length_append, List.length_cons, List.length_nil] at hn hk
    obtain ⟨k, rfl⟩ : ∃ j, k = j + 1 := ⟨k - 1, by omega⟩
    have hy : stopY (wrL 4 [124] false ps) := by
      cases ps with
      | nil => rw [wrL_nil]; exact .inl rfl
      | cons q ps => rw [wrL_4]; exact .inr ⟨124, _, rfl, .inl rfl⟩
    have h1 := hp p (List.mem_cons_self ..) n (wrL 4 [124] false ps) (by omega) hy
    show alts (chc n) (k + 1) ts (124 :: (prtT p ++ wrL 4 [124] false ps)) = _
    rw [alts, if_pos (by rfl)]
    simp only [List.tail_cons]
    rw [h1]
    simp only
    rw [altm_items ps (fun x hx => hp x (List.mem_cons_of_mem _ hx)) n k (ts ++ [rdT p]) (by omega) (by omega), rdL]
    simp
theorem rd_3 (u : Nat → Int) (ps : List RT) : rdT (.mk 3 u ps) = joinT 3 (rdL ps) := by rw [rdT]; rfl
theorem rd_4 (u : Nat → Int) (ps : List RT) : rdT (.mk 4 u ps) = joinT 4 (rdL ps) := by rw [rdT]; rfl
theorem rd_0 (u : Nat → Int) (ps : List RT) : rdT (.mk 0 u ps) = setT (rdU noS) := by rw [rdT, if_pos rfl]
theorem rd_1 (u : Nat → Int) (ps : List RT) : rdT (.mk 1 u ps) = .mk 1 u0 (rdL ps) := by rw [rdT]; rfl
theorem rd_2 (u : Nat → Int) (ps : List RT) : rdT (.mk 2 u ps) = setT (rdU (fOf u)) := by rw [rdT, if_neg (by decide), if_pos rfl]
theorem rd_5 {k : Int} (h : k = 5 ∨ k = 6 ∨ k = 7) (u : Nat → Int) (ps : List RT) : rdT (.mk k u ps) = .mk k u0 (rdL ps) := by
  rcases h with rfl | rfl | rfl <;> (rw [rdT]; rfl)
theorem row_pos {ts : List RT} (h : 1 ≤ ts.length) : rowT ts = joinT 3 ts := by
  match ts, h with
  | a :: ts, _ => rfl
  | [], h => simp at h
theorem wset_none : wset noS = [91, 93] := by decide +kernel
theorem wrT_00 (u : Nat → Int) (ps : List RT) : wrT (.mk 0 u ps) = wset noS := by rw [wrT_0, wset_none]
theorem enc_30 (u : Nat → Int) : encB 3 (kindT (.mk 0 u [])) = false := show encB 3 0 = false by decide
theorem itm_0 (u : Nat → Int) : itmT (.mk 0 u []) = wset noS := by
  unfold itmT
  rw [enc_30, cond_false, wrT_00]
theorem good_0 (u : Nat → Int) : goodH (itmT (.mk 0 u [])) := by
  rw [itm_0]
  exact wset_good noS
theorem thm_0 (u : Nat → Int) : ThM (.mk 0 u []) := by
  intro n y hn
  rw [itm_0, rd_0, thing_set]
theorem k0_1 (u : Nat → Int) : kindT (.mk 0 u []) ≠ 1 := show (0 : Int) ≠ 1 by decide
theorem k0_3 (u : Nat → Int) : kindT (.mk 0 u []) ≠ 3 := show (0 : Int) ≠ 3 by decide
theorem k0_4 (u : Nat → Int) : kindT (.mk 0 u []) ≠ 4 := show (0 : Int) ≠ 4 by decide
theorem alm_0 (u : Nat → Int) : AllM (.mk 0 u []) := by
  have hr := rwm_of_th (k0_1 u) (k0_3 u) (thm_0 u) (good_0 u)
  exact ⟨thm_0 u, good_0 u, hr, whm_of_rw (k0_4 u) hr⟩
theorem thm_2 (u : Nat → Int) : ThM (.mk 2 u []) := by
  intro n y hn
  rw [itm_2, rd_2, thing_set]
theorem alm_2 (u : Nat → Int) : AllM (.mk 2 u []) := by
  have hr := rwm_of_th (k2_1 u) (k2_3 u) (thm_2 u) (good_2 u)
  exact ⟨thm_2 u, good_2 u, hr, whm_of_rw (k2_4 u) hr⟩
theorem alm_1 (u : Nat → Int) : AllM (.mk 1 u []) := by
  have hr : RwM (.mk 1 u []) := fun n y hn hy => by
    have e : prtT (.mk 1 u []) = [] := by
      have h0 : encB 4 (kindT (.mk 1 u [])) = false := show encB 4 1 = false by decide
      unfold prtT
      rw [h0, cond_false]
      exact wrT_1 u []
    have := thgm_items [] (fun _ h => nomatch h) n (y.length + 1) true [] y (by rw [wrL_nil]; simp) (by rw [wrL_nil]; simp) hy
    rw [wrL_nil] at this
    rw [e]
    unfold rowF
    show (match thgs (chc n) (y.length + 1) [] ([] ++ y) with | .error q => Except.error q | .ok (ts, q) => .ok (rowT ts, q)) = _
    rw [this]
    rw [rd_1, rdL]
    rfl
  have hw : WhM (.mk 1 u []) := whm_of_rw (show (1 : Int) ≠ 4 by decide) hr
  obtain ⟨h1, h2⟩ := thm_of_wh (t := .mk 1 u []) (show encB 3 1 = true by decide) hw
  exact ⟨h1, h2, hr, hw⟩
theorem alm_3 (u : Nat → Int) (ps : List RT) (hl : 1 ≤ ps.length) (hp : ∀ p ∈ ps, AllM p) : AllM (.mk 3 u ps) := by
  have hr : RwM (.mk 3 u ps) := fun n y hn hy => by
    have e : prtT (.mk 3 u ps) = wrL 3 [] true ps := by
      have h0 : encB 4 (kindT (.mk 3 u ps)) = false := show encB 4 3 = false by decide
      unfold prtT
      rw [h0, cond_false]
      exact wrT_3 u ps
    rw [e] at hn ⊢
    have := thgm_items ps (fun p h => ⟨(hp p h).1, (hp p h).2.1⟩) n ((wrL 3 [] true ps ++ y).length + 1) true [] y hn (by rw [List.length_append]; omega) hy
    unfold rowF
    rw [this]
    simp only [List.nil_append]
    rw [row_pos (by rw [rdL_len]; exact hl), rd_3]
  have hw : WhM (.mk 3 u ps) := whm_of_rw (show (3 : Int) ≠ 4 by decide) hr
  obtain ⟨h1, h2⟩ := thm_of_wh (t := .mk 3 u ps) (show encB 3 3 = true by decide) hw
  exact ⟨h1, h2, hr, hw⟩
theorem alm_4 (u : Nat → Int) (ps : List RT) (hl : 1 ≤ ps.length) (hp : ∀ p ∈ ps, AllM p) : AllM (.mk 4 u ps) := by
  have hw : WhM (.mk 4 u ps) := by
    unfold WhM
    rw [wrT_4]
    match ps, hl, hp with
    | p :: qs, hl, hp =>
      rw [wrL_4]
      simp only [cond_true, List.nil_append]
      have hy : stopY (wrL 4 [124] false qs) := by
        cases qs with
        | nil => rw [wrL_nil]; exact .inl rfl
        | cons q ps => rw [wrL_4]; exact .inr ⟨124, _, rfl, .inl rfl⟩
      obtain ⟨n, hn⟩ : ∃ n, (prtT p ++ wrL 4 [124] false qs).length = n := ⟨_, rfl⟩
      have h1 := (hp p (List.mem_cons_self ..)).2.2.1 n (wrL 4 [124] false qs) (by rw [← hn, List.length_append]; omega) hy
      have h2 := altm_items qs (fun x hx => (hp x (List.mem_cons_of_mem _ hx)).2.2.1) n ((wrL 4 [124] false qs).length + 1) [rdT p] (by rw [← hn, List.length_append]; omega) (by omega)
      unfold wholeF
      rw [hn, chc]
      unfold choiceF
      rw [h1]
      simp only
      rw [h2]
      simp only
      rw [show [rdT p] ++ rdL qs = rdL (p :: qs) by rw [rdL]; rfl, rd_4]
    | [], hl, hp => simp at hl
  obtain ⟨h1, h2⟩ := thm_of_wh (t := .mk 4 u ps) (show encB 3 4 = true by decide) hw
  exact ⟨h1, h2, rwm_of_th (show (4 : Int) ≠ 1 by decide) (show (4 : Int) ≠ 3 by decide) h1 h2, hw⟩
theorem alm_5 (k : Int) (u : Nat → Int) (ps : List RT) (hk : k = 5 ∨ k = 6 ∨ k = 7) (hl : ps.length = 1) (hp : ∀ p ∈ ps, AllM p) : AllM (.mk k u ps) := by
  obtain ⟨p, rfl⟩ := List.length_eq_one_iff.1 hl
  obtain ⟨hth, hgd, _, _⟩ := hp p (by simp)
  have hk4 : k ≠ 4 := by rcases hk with rfl | rfl | rfl <;> decide
  have hk1 : k ≠ 1 := by rcases hk with rfl | rfl | rfl <;> decide
  have hk3 : k ≠ 3 := by rcases hk with rfl | rfl | rfl <;> decide
  have hk2 : k ≠ 2 := by rcases hk with rfl | rfl | rfl <;> decide
  obtain ⟨c, hc, hs⟩ : ∃ c, (rps.contains c = true ∧ (5 + Lib.indexByte rps c : Int) = k) ∧ wrT (.mk k u [p]) = itmT p ++ [c] := by
    rcases hk with rfl | rfl | rfl
    · exact ⟨42, by decide, by rw [wrT_5, wrL_ne (by decide), wrL_nil, List.append_nil]⟩
    · exact ⟨43, by decide, by rw [wrT_6, wrL_ne (by decide), wrL_nil, List.append_nil]⟩
    · exact ⟨63, by decide, by rw [wrT_7, wrL_ne (by decide), wrL_nil, List.append_nil]⟩
  have he : itmT (.mk k u [p]) = itmT p ++ [c] := by
    unfold itmT kindT encB
    rw [if_neg (by decide), show (k == 1) = false by simpa using hk1, show (k == 3) = false by simpa using hk3, show (k == 4) = false by simpa using hk4]
    exact hs
  have ht : ThM (.mk k u [p]) := fun n y hn => by
    rw [he] at hn ⊢
    rw [List.append_assoc, hth n ([c] ++ y) (by simp at hn; omega)]
    show Except.ok (reps (rdT p) (c :: y)) = _
    rw [reps, if_pos hc.1, hc.2, rd_5 hk, rdL, rdL]
  have hg : goodH (itmT (.mk k u [p])) := by
    rw [he]
    obtain ⟨h, q, e, hh⟩ := hgd
    exact ⟨h, q ++ [c], by rw [e]; rfl, hh⟩
  have hr := rwm_of_th (t := .mk k u [p]) hk1 hk3 ht hg
  exact ⟨ht, hg, hr, whm_of_rw (t := .mk k u [p]) hk4 hr⟩
theorem alm_step (k : Int) (u : Nat → Int) (ps : List RT) (hn : mfT (.mk k u ps)) (hp : ∀ p ∈ ps, AllM p) : AllM (.mk k u ps) := by
  rw [mfT] at hn
  obtain ⟨hk, _⟩ := hn
  rcases hk with ⟨rfl | rfl | rfl, rfl⟩ | ⟨rfl | rfl, hl⟩ | ⟨hk, hl⟩
  · exact alm_0 u
  · exact alm_1 u
  · exact alm_2 u
  · exact alm_3 u ps hl hp
  · exact alm_4 u ps hl hp
  · exact alm_5 k u ps hk hl hp
theorem alm_any : ∀ (m : Nat) (t : RT), sz t ≤ m → mfT t → AllM t
  | 0, t, h, _ => by have := sz_pos t; omega
  | m + 1, .mk k u ps, h, hn => by
    refine alm_step k u ps hn fun p hp => alm_any m p ?_ ?_
    · have := szL_mem hp
      rw [sz] at h; omega
    · rw [mfT] at hn; exact mfL_mem hn.2 hp
/-- Any tree's own text is read. -/
theorem whole_rd {t : RT} (h : mfT t) : wholeF (wrT t) = .ok (rdT t) := (alm_any _ t (Nat.le_refl _) h).2.2.2
mutual
theorem mf_of : ∀ (t : RT), mayB t = true → mfT t
  | .mk k u ps, h => by
    rw [mayB, Bool.and_eq_true, Bool.and_eq_true] at h
    rw [mfT]
    refine ⟨?_, mfL_of ps h.2⟩
    have hf := h.1.1
    unfold fitsB at hf
    by_cases h1 : k = 0 ∨ k = 1 ∨ k = 2
    · rw [if_pos h1] at hf
      exact .inl ⟨h1, List.length_eq_zero_iff.1 (by simpa using hf)⟩
    · rw [if_neg h1] at hf
      by_cases h2 : k = 3 ∨ k = 4
      · rw [if_pos h2] at hf
        exact .inr (.inl ⟨h2, by simp at hf; omega⟩)
      · rw [if_neg h2] at hf
        by_cases h3 : k = 5 ∨ k = 6 ∨ k = 7
        · rw [if_pos h3] at hf
          exact .inr (.inr ⟨h3, by simpa using hf⟩)
        · rw [if_neg h3] at hf; cases hf
theorem mfL_of : ∀ (ts : List RT), mayL ts = true → mfL ts
  | [], _ => by rw [mfL]; trivial
  | t :: ts, h => by
    rw [mayL, Bool.and_eq_true] at h
    rw [mfL]
    exact ⟨mf_of t h.1, mfL_of ts h.2⟩
end
end Go.Proofs.YtmjojahkbjlcdaaDoor
