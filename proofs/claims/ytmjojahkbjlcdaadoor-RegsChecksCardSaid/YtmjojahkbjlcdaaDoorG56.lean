import Derived.Test.YtmjojahkbjlcdaaDoorProg
import Derived.Test.YtmjojahkbjlcdaaDoorX3
import Derived.Test.YtmjojahkbjlcdaaDoorX4
import Derived.WalkKit
import Derived.WalkLawsBesides
import Derived.WalkSpells
import Derived.Outline
import Derived.Lib.Walk
import Derived.Lib.Hide
import Derived.RegionTactic
import Derived.LoopTactic
import Derived.Below
import Derived.IntWalk
import Derived.Deep.QuietTactic
import Derived.BigQuiet
import Derived.Test.YtmjojahkbjlcdaaDoorX34
import Derived.Test.YtmjojahkbjlcdaaDoorG55
namespace Go.Proofs.YtmjojahkbjlcdaaDoor
set_option linter.unusedSimpArgs false
set_option linter.unusedVariables false
set_option maxRecDepth 100000
open Go.RowKit

/- What a tree's own text is read as. -/
mutual
/-- A tree as reading makes them. -/
def nfT : RT → Prop
  | .mk k _ ps => (((k = 1 ∨ k = 2) ∧ ps = []) ∨ ((k = 3 ∨ k = 4) ∧ 2 ≤ ps.length) ∨ ((k = 5 ∨ k = 6 ∨ k = 7) ∧ ps.length = 1)) ∧ nfL ps
def nfL : List RT → Prop
  | [] => True
  | t :: ts => nfT t ∧ nfL ts
end
mutual
/-- What a tree's text is read as. -/
def cnT : RT → RT
  | .mk k u ps => if k = 2 then .mk 2 (rdU (fOf u)) [] else .mk k u0 (cnL ps)
def cnL : List RT → List RT
  | [] => []
  | t :: ts => cnT t :: cnL ts
end
theorem nfL_mem : ∀ {ts : List RT} {t : RT}, nfL ts → t ∈ ts → nfT t
  | a :: ts, t, h, g => by
    rw [nfL] at h
    rcases List.mem_cons.1 g with rfl | g
    · exact h.1
    · exact nfL_mem h.2 g
theorem szL_mem : ∀ {ts : List RT} {t : RT}, t ∈ ts → sz t ≤ szL ts
  | a :: ts, t, g => by
    rw [szL]
    rcases List.mem_cons.1 g with rfl | g
    · omega
    · have := szL_mem g; omega
theorem cnL_len : ∀ (ts : List RT), (cnL ts).length = ts.length
  | [] => rfl
  | t :: ts => by rw [cnL, List.length_cons, List.length_cons, cnL_len ts]
def itmT (t : RT) : List UInt8 := bif encB 3 (kindT t) then [40] ++ wrT t ++ [41] else wrT t
def prtT (t : RT) : List UInt8 := bif encB 4 (kindT t) then [40] ++ wrT t ++ [41] else wrT t
theorem enc_ne {k p : Int} (h : k ≠ 4) : encB k p = encB 3 p := by
  unfold encB; rw [if_neg h, if_neg (by decide)]
theorem wrL_ne {k : Int} (h : k ≠ 4) (fs : Bool) (t : RT) (ts : List RT) : wrL k [] fs (t :: ts) = itmT t ++ wrL k [] false ts := by
  rw [wrL, enc_ne h]
  cases fs <;> rfl
theorem wrL_4 (fs : Bool) (t : RT) (ts : List RT) : wrL 4 [124] fs (t :: ts) = (bif fs then [] else [124]) ++ (prtT t ++ wrL 4 [124] false ts) := by
  rw [wrL]; rfl
theorem wrL_nil (k : Int) (bt : List UInt8) (fs : Bool) : wrL k bt fs [] = [] := by rw [wrL]
def stopY (y : List UInt8) : Prop := y = [] ∨ ∃ c r, y = c :: r ∧ (c = 124 ∨ c = 41)
theorem stopY.reps {y : List UInt8} (h : stopY y) : ahl rps y = false := by
  rcases h with rfl | ⟨c, r, rfl, rfl | rfl⟩ <;> rfl
theorem goodH.reps {l y : List UInt8} (h : goodH l) : ahl rps (l ++ y) = false := by
  obtain ⟨c, q, rfl, h1, h2, h3, _, _⟩ := h
  show rps.contains c = false
  simp [rps, h1, h2, h3]
def ThT (t : RT) : Prop := ∀ n y, (itmT t).length ≤ n → thingF (chc n) (itmT t ++ y) = .ok (reps (cnT t) y)
def RwT (t : RT) : Prop := ∀ n y, (prtT t).length ≤ n → stopY y → rowF (chc n) (prtT t ++ y) = .ok (cnT t, y)
def WhT (t : RT) : Prop := wholeF (wrT t) = .ok (cnT t)
def AllT (t : RT) : Prop := ThT t ∧ goodH (itmT t) ∧ RwT t ∧ WhT t
theorem th_of_wh {t : RT} (he : encB 3 (kindT t) = true) (h : WhT t) : ThT t ∧ goodH (itmT t) := by
  have e : itmT t = 40 :: (wrT t ++ [41]) := by unfold itmT; rw [he]; simp
  constructor
  · intro n y hn
    rw [e] at hn ⊢
    have hn2 : (wrT t).length + 1 ≤ n := by simp at hn; omega
    have h2 : chc n (wrT t ++ 41 :: y) = .ok (cnT t, 41 :: y) := chc_ex y _ n hn2 _ _ _ (chc_of_whole h)
    rw [show (40 :: (wrT t ++ [41])) ++ y = 40 :: (wrT t ++ 41 :: y) by simp]
    unfold thingF
    have ha : atomF (chc n) (40 :: (wrT t ++ 41 :: y)) = .ok (cnT t, y) := by
      unfold atomF
      rw [if_pos (by rfl)]
      simp only [List.tail_cons]
      rw [h2]
    rw [ha]
  · rw [e]; exact ⟨40, _, rfl, by decide, by decide, by decide, by decide, by decide⟩
theorem thgs_items : ∀ (ps : List RT), (∀ p ∈ ps, ThT p ∧ goodH (itmT p)) → ∀ (n k : Nat) (fs : Bool) (ts : List RT) (y : List UInt8), (wrL 3 [] fs ps).length ≤ n → (wrL 3 [] fs ps).length < k → stopY y →
    thgs (chc n) k ts (wrL 3 [] fs ps ++ y) = .ok (ts ++ cnL ps, y)
  | [], _, n, k, fs, ts, y, hn, hk, hy => by
    rw [wrL_nil] at hk ⊢
    obtain ⟨k, rfl⟩ : ∃ j, k = j + 1 := ⟨k - 1, by simp at hk; omega⟩
    rw [cnL, List.append_nil, List.nil_append]
    rcases hy with rfl | ⟨c, r, rfl, hc⟩
    · rw [thgs]
    · rw [thgs, if_pos (by rcases hc with rfl | rfl <;> rfl)]
  | p :: ps, hp, n, k, fs, ts, y, hn, hk, hy => by
    obtain ⟨h1, h2⟩ := hp p (List.mem_cons_self ..)
    rw [wrL_ne (by decide)] at hn hk ⊢
    rw [List.length_append] at hn hk
    have h3 := h1 n (wrL 3 [] false ps ++ y) (by omega)
    have hr : ahl rps (wrL 3 [] false ps ++ y) = false := by
      cases ps with
      | nil => rw [wrL_nil]; exact hy.reps
      | cons q ps =>
        rw [wrL_ne (by decide), List.append_assoc]
        exact (hp q (by simp)).2.reps
    rw [reps_stop hr] at h3
    rw [List.append_assoc]
    obtain ⟨c, q, e, _, _, _, h124, h41⟩ := h2
    rw [e] at hn hk h3 ⊢
    obtain ⟨k, rfl⟩ : ∃ j, k = j + 1 := ⟨k - 1, by simp at hk; omega⟩
    rw [List.cons_append] at h3 ⊢
    rw [thgs, if_neg (by simp [h124, h41]), h3]
    simp only
    rw [thgs_items ps (fun x hx => hp x (List.mem_cons_of_mem _ hx)) n k false (ts ++ [cnT p]) y (by simp at hn; omega) (by simp at hk; omega) hy, cnL]
    simp
theorem rw_of_th {t : RT} (h1 : kindT t ≠ 1) (h3 : kindT t ≠ 3) (h : ThT t) (hg : goodH (itmT t)) : RwT t := by
  intro n y hn hy
  have e : prtT t = itmT t := by
    unfold prtT itmT encB
    rw [if_pos rfl, if_neg (by decide), show (kindT t == 1) = false by simpa using h1, show (kindT t == 3) = false by simpa using h3]
    rfl
  rw [e] at hn ⊢
  have hw : wrL 3 [] true [t] = itmT t := by rw [wrL_ne (by decide), wrL_nil, List.append_nil]
  have := thgs_items [t] (fun p hp => by rw [List.mem_singleton.1 hp]; exact ⟨h, hg⟩) n ((itmT t ++ y).length + 1) true [] y (by rw [hw]; exact hn) (by rw [hw, List.length_append]; omega) hy
  rw [hw] at this
  unfold rowF
  rw [this]
  rfl
theorem whole_row {l : List UInt8} {t : RT} (h : rowF (chc l.length) l = .ok (t, [])) : wholeF l = .ok t := by
  unfold wholeF
  rw [chc]
  unfold choiceF
  rw [h]
  simp only
  rw [alts, if_neg (by simp)]
  rfl
theorem wh_of_rw {t : RT} (h4 : kindT t ≠ 4) (h : RwT t) : WhT t := by
  have e : prtT t = wrT t := by
    unfold prtT encB
    rw [if_pos rfl, show (kindT t == 4) = false by simpa using h4]
    rfl
  have := h (wrT t).length [] (by rw [e]; exact Nat.le_refl _) (.inl rfl)
  rw [e, List.append_nil] at this
  exact whole_row this
theorem alts_items : ∀ (ps : List RT), (∀ p ∈ ps, RwT p) → ∀ (n k : Nat) (ts : List RT), (wrL 4 [124] false ps).length ≤ n → (wrL 4 [124] false ps).length < k →
    alts (chc n) k ts (wrL 4 [124] false ps) = .ok (ts ++ cnL ps, [])
  | [], _, n, k, ts, hn, hk => by
    rw [wrL_nil] at hk ⊢
    obtain ⟨k, rfl⟩ : ∃ j, k = j + 1 := ⟨k - 1, by simp at hk; omega⟩
    rw [alts, if_neg (by simp), cnL, List.append_nil]
  | p :: ps, hp, n, k, ts, hn, hk => by
    rw [wrL_4] at hn hk ⊢
    simp only [cond_false, List.length_append, List.length_cons, List.length_nil] at hn hk
    obtain ⟨k, rfl⟩ : ∃ j, k = j + 1 := ⟨k - 1, by omega⟩
    have hy : stopY (wrL 4 [124] false ps) := by
      cases ps with
      | nil => rw [wrL_nil]; exact .inl rfl
      | cons q ps => rw [wrL_4]; exact .inr ⟨124, _, rfl, .inl rfl⟩
    have h1 := hp p (List.mem_cons_self ..) n (wrL 4 [124] false ps) (by omega) hy
    show alts (chc n) (k + 1) ts (124 :: (prtT p ++ wrL 4 [124] false ps)) = _
    rw [alts, if_pos (by rfl)]
    simp only [List.tail_cons]
    rw [h1]
    simp only
    rw [alts_items ps (fun x hx => hp x (List.mem_cons_of_mem _ hx)) n k (ts ++ [cnT p]) (by omega) (by omega), cnL]
    simp
theorem cn_ne {k : Int} (h : k ≠ 2) (u : Nat → Int) (ps : List RT) : cnT (.mk k u ps) = .mk k u0 (cnL ps) := by rw [cnT, if_neg h]
theorem join_two {k : Int} {ts : List RT} (h : 2 ≤ ts.length) : joinT k ts = .mk k u0 ts := by
  match ts, h with
  | a :: b :: ts, _ => rfl
  | [a], h => simp at h
  | [], h => simp at h
theorem row_two {ts : List RT} (h : 2 ≤ ts.length) : rowT ts = .mk 3 u0 ts := by
  match ts, h with
  | a :: b :: ts, _ => rfl
  | [a], h => simp at h
  | [], h => simp at h
theorem all_1 (u : Nat → Int) : AllT (.mk 1 u []) := by
  have hr : RwT (.mk 1 u []) := fun n y hn hy => by
    have e : prtT (.mk 1 u []) = [] := by
      have h0 : encB 4 (kindT (.mk 1 u [])) = false := show encB 4 1 = false by decide
      unfold prtT
      rw [h0, cond_false]
      exact wrT_1 u []
    have := thgs_items [] (fun _ h => nomatch h) n (y.length + 1) true [] y (by rw [wrL_nil]; simp) (by rw [wrL_nil]; simp) hy
    rw [wrL_nil] at this
    rw [e]
    unfold rowF
    show (match thgs (chc n) (y.length + 1) [] ([] ++ y) with | .error q => Except.error q | .ok (ts, q) => .ok (rowT ts, q)) = _
    rw [this]
    rw [cn_ne (by decide), cnL]
    rfl
  have hw : WhT (.mk 1 u []) := wh_of_rw (show (1 : Int) ≠ 4 by decide) hr
  obtain ⟨h1, h2⟩ := th_of_wh (t := .mk 1 u []) (show encB 3 1 = true by decide) hw
  exact ⟨h1, h2, hr, hw⟩
theorem enc_32 (u : Nat → Int) : encB 3 (kindT (.mk 2 u [])) = false := show encB 3 2 = false by decide
theorem itm_2 (u : Nat → Int) : itmT (.mk 2 u []) = wset (fOf u) := by
  unfold itmT
  rw [enc_32, cond_false, wrT_2]
theorem cn_2 (u : Nat → Int) : cnT (.mk 2 u []) = setT (rdU (fOf u)) := by
  unfold setT
  rw [cnT, if_pos rfl]
theorem good_2 (u : Nat → Int) : goodH (itmT (.mk 2 u [])) := by
  rw [itm_2]
  exact wset_good (fOf u)
theorem thing_of {ch : List UInt8 → Except (List UInt8) (RT × List UInt8)} {l : List UInt8} {t : RT} {r : List UInt8} (h : atomF ch l = .ok (t, r)) : thingF ch l = .ok (reps t r) := by
  unfold thingF
  rw [h]
theorem thing_set (ch : List UInt8 → Except (List UInt8) (RT × List UInt8)) (f : Nat → Bool) (y : List UInt8) : thingF ch (wset f ++ y) = .ok (reps (setT (rdU f)) y) := thing_of (atom_set ch f y)
theorem th_2 (u : Nat → Int) : ThT (.mk 2 u []) := by
  intro n y hn
  rw [itm_2, cn_2, thing_set]
theorem k2_1 (u : Nat → Int) : kindT (.mk 2 u []) ≠ 1 := show (2 : Int) ≠ 1 by decide
theorem k2_3 (u : Nat → Int) : kindT (.mk 2 u []) ≠ 3 := show (2 : Int) ≠ 3 by decide
theorem k2_4 (u : Nat → Int) : kindT (.mk 2 u []) ≠ 4 := show (2 : Int) ≠ 4 by decide
theorem all_2 (u : Nat → Int) : AllT (.mk 2 u []) := by
  have hr := rw_of_th (k2_1 u) (k2_3 u) (th_2 u) (good_2 u)
  exact ⟨th_2 u, good_2 u, hr, wh_of_rw (k2_4 u) hr⟩
theorem all_3 (u : Nat → Int) (ps : List RT) (hl : 2 ≤ ps.length) (hp : ∀ p ∈ ps, AllT p) : AllT (.mk 3 u ps) := by
  have hr : RwT (.mk 3 u ps) := fun n y hn hy => by
    have e : prtT (.mk 3 u ps) = wrL 3 [] true ps := by
      have h0 : encB 4 (kindT (.mk 3 u ps)) = false := show encB 4 3 = false by decide
      unfold prtT
      rw [h0, cond_false]
      exact wrT_3 u ps
    rw [e] at hn ⊢
    have := thgs_items ps (fun p h => ⟨(hp p h).1, (hp p h).2.1⟩) n ((wrL 3 [] true ps ++ y).length + 1) true [] y hn (by rw [List.length_append]; omega) hy
    unfold rowF
    rw [this]
    simp only [List.nil_append]
    rw [row_two (by rw [cnL_len]; exact hl), cn_ne (by decide)]
  have hw : WhT (.mk 3 u ps) := wh_of_rw (show (3 : Int) ≠ 4 by decide) hr
  obtain ⟨h1, h2⟩ := th_of_wh (t := .mk 3 u ps) (show encB 3 3 = true by decide) hw
  exact ⟨h1, h2, hr, hw⟩
theorem all_4 (u : Nat → Int) (ps : List RT) (hl : 2 ≤ ps.length) (hp : ∀ p ∈ ps, AllT p) : AllT (.mk 4 u ps) := by
  have hw : WhT (.mk 4 u ps) := by
    unfold WhT
    rw [wrT_4]
    match ps, hl, hp with
    | p :: qs, hl, hp =>
      rw [wrL_4]
      simp only [cond_true, List.nil_append]
      have hy : stopY (wrL 4 [124] false qs) := by
        cases qs with
        | nil => rw [wrL_nil]; exact .inl rfl
        | cons q ps => rw [wrL_4]; exact .inr ⟨124, _, rfl, .inl rfl⟩
      obtain ⟨n, hn⟩ : ∃ n, (prtT p ++ wrL 4 [124] false qs).length = n := ⟨_, rfl⟩
      have h1 := (hp p (List.mem_cons_self ..)).2.2.1 n (wrL 4 [124] false qs) (by rw [← hn, List.length_append]; omega) hy
      have h2 := alts_items qs (fun x hx => (hp x (List.mem_cons_of_mem _ hx)).2.2.1) n ((wrL 4 [124] false qs).length + 1) [cnT p] (by rw [← hn, List.length_append]; omega) (by omega)
      unfold wholeF
      rw [hn, chc]
      unfold choiceF
      rw [h1]
      simp only
      rw [h2]
      simp only
      rw [show [cnT p] ++ cnL qs = cnL (p :: qs) by rw [cnL]; rfl, join_two (by rw [cnL_len]; exact hl), cn_ne (by decide)]
    | [], hl, hp => simp at hl
  obtain ⟨h1, h2⟩ := th_of_wh (t := .mk 4 u ps) (show encB 3 4 = true by decide) hw
  exact ⟨h1, h2, rw_of_th (show (4 : Int) ≠ 1 by decide) (show (4 : Int) ≠ 3 by decide) h1 h2, hw⟩
theorem all_5 (k : Int) (u : Nat → Int) (ps : List RT) (hk : k = 5 ∨ k = 6 ∨ k = 7) (hl : ps.length = 1) (hp : ∀ p ∈ ps, AllT p) : AllT (.mk k u ps) := by
  obtain ⟨p, rfl⟩ := List.length_eq_one_iff.1 hl
  obtain ⟨hth, hgd, _, _⟩ := hp p (by simp)
  have hk4 : k ≠ 4 := by rcases hk with rfl | rfl | rfl <;> decide
  have hk1 : k ≠ 1 := by rcases hk with rfl | rfl | rfl <;> decide
  have hk3 : k ≠ 3 := by rcases hk with rfl | rfl | rfl <;> decide
  have hk2 : k ≠ 2 := by rcases hk with rfl | rfl | rfl <;> decide
  obtain ⟨c, hc, hs⟩ : ∃ c, (rps.contains c = true ∧ (5 + Lib.indexByte rps c : Int) = k) ∧ wrT (.mk k u [p]) = itmT p ++ [c] := by
    rcases hk with rfl | rfl | rfl
    · exact ⟨42, by decide, by rw [wrT_5, wrL_ne (by decide), wrL_nil, List.append_nil]⟩
    · exact ⟨43, by decide, by rw [wrT_6, wrL_ne (by decide), wrL_nil, List.append_nil]⟩
    · exact ⟨63, by decide, by rw [wrT_7, wrL_ne (by decide), wrL_nil, List.append_nil]⟩
  have he : itmT (.mk k u [p]) = itmT p ++ [c] := by
    unfold itmT kindT encB
    rw [if_neg (by decide), show (k == 1) = false by simpa using hk1, show (k == 3) = false by simpa using hk3, show (k == 4) = false by simpa using hk4]
    exact hs
  have ht : ThT (.mk k u [p]) := fun n y hn => by
    rw [he] at hn ⊢
    rw [List.append_assoc, hth n ([c] ++ y) (by simp at hn; omega)]
    show Except.ok (reps (cnT p) (c :: y)) = _
    rw [reps, if_pos hc.1, hc.2, cn_ne hk2, cnL, cnL]
  have hg : goodH (itmT (.mk k u [p])) := by
    rw [he]
    obtain ⟨h, q, e, hh⟩ := hgd
    exact ⟨h, q ++ [c], by rw [e]; rfl, hh⟩
  have hr := rw_of_th (t := .mk k u [p]) hk1 hk3 ht hg
  exact ⟨ht, hg, hr, wh_of_rw (t := .mk k u [p]) hk4 hr⟩
theorem all_step (k : Int) (u : Nat → Int) (ps : List RT) (hn : nfT (.mk k u ps)) (hp : ∀ p ∈ ps, AllT p) : AllT (.mk k u ps) := by
  rw [nfT] at hn
  obtain ⟨hk, _⟩ := hn
  rcases hk with ⟨rfl | rfl, rfl⟩ | ⟨rfl | rfl, hl⟩ | ⟨hk, hl⟩
  · exact all_1 u
  · exact all_2 u
  · exact all_3 u ps hl hp
  · exact all_4 u ps hl hp
  · exact all_5 k u ps hk hl hp
theorem all_any : ∀ (m : Nat) (t : RT), sz t ≤ m → nfT t → AllT t
  | 0, t, h, _ => by have := sz_pos t; omega
  | m + 1, .mk k u ps, h, hn => by
    refine all_step k u ps hn fun p hp => all_any m p ?_ ?_
    · have := szL_mem hp
      rw [sz] at h; omega
    · rw [nfT] at hn; exact nfL_mem hn.2 hp
/-- A tree's own text is read as the tree. -/
theorem whole_back {t : RT} (h : nfT t) : wholeF (wrT t) = .ok (cnT t) := (all_any _ t (Nat.le_refl _) h).2.2.2
end Go.Proofs.YtmjojahkbjlcdaaDoor
