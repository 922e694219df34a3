/- Texts of package regs, one behind the other. -/
import Derived.Test.YtmjojahkbjlcdaaDoorProg
import Derived.Test.YtmjojahkbjlcdaaDoorX3
import Derived.Test.YtmjojahkbjlcdaaDoorX5
import Derived.WalkKit
import Derived.WalkLawsBesides
import Derived.WalkSpells
import Derived.Outline
import Derived.Lib.Walk
import Derived.Lib.Hide
import Derived.RegionTactic
import Derived.LoopTactic
import Derived.Below
import Derived.IntWalk
import Derived.Deep.QuietTactic
import Derived.BigQuiet
import Derived.Test.YtmjojahkbjlcdaaDoorX43
import Derived.Test.YtmjojahkbjlcdaaDoorX21
import Derived.Test.YtmjojahkbjlcdaaDoorRows
import Derived.Test.YtmjojahkbjlcdaaDoorX28
import Derived.ProofKit
import Derived.LaidMore
import Derived.OpenShut
import Derived.Stop.Joined
import Derived.Lib.LaidTab
section
/- Package regs: the reader's small steps: what comes next. -/
namespace Go.Proofs.YtmjojahkbjlcdaaDoor
set_option linter.unusedSimpArgs false
set_option linter.unusedVariables false
set_option maxRecDepth 100000
open Go.RowKit

/-- What one reads of a text, the other reads of it with a bracket behind. -/
def Exs {α : Type} (y : List UInt8) (f g : List UInt8 → Except (List UInt8) (α × List UInt8)) : Prop := ∀ l a r, f l = .ok (a, r) → g (l ++ 41 :: y) = .ok (a, r ++ 41 :: y)
theorem sgl_ex (y : List UInt8) : Exs y sgl sgl := fun l a r h => by
  match l, h with
  | [], h => cases h
  | [92], h => cases h
  | 92 :: d :: q, h =>
    have e : sgl (92 :: d :: q) = (match ltr d with | some x => .ok (x, q) | none => if sgs.contains d then .ok (d, q) else .error (d :: q)) := rfl
    have e2 : sgl ((92 :: d :: q) ++ 41 :: y) = (match ltr d with | some x => .ok (x, q ++ 41 :: y) | none => if sgs.contains d then .ok (d, q ++ 41 :: y) else .error (d :: (q ++ 41 :: y))) := rfl
    rw [e] at h
    rw [e2]
    cases hl : ltr d with
    | some x => rw [hl] at h; simp only at h ⊢; cases h; rfl
    | none =>
      rw [hl] at h
      simp only at h ⊢
      by_cases hs : sgs.contains d = true
      · rw [if_pos hs] at h ⊢; cases h; rfl
      · rw [if_neg hs] at h; cases h
  | c :: q, h =>
    by_cases h92 : c = 92
    · subst h92
      match q, h with
      | [], h => cases h
      | d :: q, h =>
        have e : sgl (92 :: d :: q) = (match ltr d with | some x => .ok (x, q) | none => if sgs.contains d then .ok (d, q) else .error (d :: q)) := rfl
        have e2 : sgl ((92 :: d :: q) ++ 41 :: y) = (match ltr d with | some x => .ok (x, q ++ 41 :: y) | none => if sgs.contains d then .ok (d, q ++ 41 :: y) else .error (d :: (q ++ 41 :: y))) := rfl
        rw [e] at h
        rw [e2]
        cases hl : ltr d with
        | some x => rw [hl] at h; simp only at h ⊢; cases h; rfl
        | none =>
          rw [hl] at h
          simp only at h ⊢
          by_cases hs : sgs.contains d = true
          · rw [if_pos hs] at h ⊢; cases h; rfl
          · rw [if_neg hs] at h; cases h
    · have e : ∀ q, sgl (c :: q) = if sgs.contains c then .error (c :: q) else .ok (c, q) := fun q => by
        rw [sgl]
        · intro hh; exact absurd hh h92
        · intro _ _ hh; exact absurd hh h92
      rw [e] at h
      show sgl (c :: (q ++ 41 :: y)) = _
      rw [e]
      by_cases hs : sgs.contains c = true
      · rw [if_pos hs] at h; cases h
      · rw [if_neg hs] at h ⊢; cases h; rfl
theorem reps_ex (y : List UInt8) : ∀ (l : List UInt8) (t : RT), reps t (l ++ 41 :: y) = ((reps t l).1, (reps t l).2 ++ 41 :: y)
  | [], t => by
    show reps t (41 :: y) = _
    rw [reps_stop (show ahl rps (41 :: y) = false from rfl)]; rfl
  | c :: r, t => by
    show reps t (c :: (r ++ 41 :: y)) = _
    rw [reps, reps]
    by_cases h : rps.contains c = true
    · rw [if_pos h, if_pos h]; exact reps_ex y r _
    · rw [if_neg h, if_neg h]; rfl
theorem thgs_ex {y : List UInt8} {f g : List UInt8 → Except (List UInt8) (RT × List UInt8)} (hfg : Exs y (thingF f) (thingF g)) : ∀ (k k' : Nat) (hk : k ≤ k') (ts ts' : List RT) (l r : List UInt8), thgs f k ts l = .ok (ts', r) → thgs g k' ts (l ++ 41 :: y) = .ok (ts', r ++ 41 :: y)
  | 0, _, _, ts, ts', l, r, h => by simp [thgs] at h
  | k + 1, 0, hk, _, _, _, _, _ => by omega
  | k + 1, k' + 1, hk, ts, ts', l, r, h => by
    cases l with
    | nil =>
      have h' : (Except.ok (ts, []) : Except (List UInt8) (List RT × List UInt8)) = .ok (ts', r) := h
      cases h'
      show thgs g (k' + 1) ts (41 :: y) = _
      rw [thgs, if_pos (by decide)]; rfl
    | cons c q =>
      rw [thgs] at h
      show thgs g (k' + 1) ts (c :: (q ++ 41 :: y)) = _
      rw [thgs]
      by_cases hc : ([124, 41] : List UInt8).contains c = true
      · rw [if_pos hc] at h ⊢; cases h; rfl
      · rw [if_neg hc] at h ⊢
        cases ht : thingF f (c :: q) with
        | error e => rw [ht] at h; cases h
        | ok v =>
          obtain ⟨t, q2⟩ := v
          rw [ht] at h
          have := hfg _ _ _ ht
          rw [show (c :: (q ++ 41 :: y)) = (c :: q) ++ 41 :: y from rfl, this]
          exact thgs_ex hfg k k' (by omega) _ _ _ _ h
theorem row_ex {y : List UInt8} {f g : List UInt8 → Except (List UInt8) (RT × List UInt8)} (hfg : Exs y (thingF f) (thingF g)) : Exs y (rowF f) (rowF g) := fun l a r h => by
  unfold rowF at h ⊢
  cases ht : thgs f (l.length + 1) [] l with
  | error e => rw [ht] at h; cases h
  | ok v =>
    obtain ⟨ts, q⟩ := v
    rw [ht] at h
    rw [thgs_ex hfg _ _ (by simp) _ _ _ _ ht]
    cases h; rfl
theorem alts_ex {y : List UInt8} {f g : List UInt8 → Except (List UInt8) (RT × List UInt8)} (hfg : Exs y (rowF f) (rowF g)) : ∀ (k k' : Nat) (hk : k ≤ k') (ts ts' : List RT) (l r : List UInt8), alts f k ts l = .ok (ts', r) → alts g k' ts (l ++ 41 :: y) = .ok (ts', r ++ 41 :: y)
  | 0, _, _, ts, ts', l, r, h => by simp [alts] at h
  | k + 1, 0, hk, _, _, _, _, _ => by omega
  | k + 1, k' + 1, hk, ts, ts', l, r, h => by
    rw [alts] at h ⊢
    cases l with
    | nil =>
      rw [if_neg (by simp)] at h
      cases h
      rw [if_neg (by simp)]
    | cons c q =>
      by_cases hc : c = 124
      · subst hc
        rw [if_pos (by rfl)] at h ⊢
        simp only [List.tail_cons] at h
        simp only [List.cons_append, List.tail_cons]
        cases ht : rowF f q with
        | error e => rw [ht] at h; cases h
        | ok v =>
          obtain ⟨t, q2⟩ := v
          rw [ht] at h
          rw [hfg _ _ _ ht]
          exact alts_ex hfg k k' (by omega) _ _ _ _ h
      · rw [if_neg (by simp [hc])] at h
        rw [if_neg (by simp [hc])]
        cases h; rfl
theorem choice_ex {y : List UInt8} {f g : List UInt8 → Except (List UInt8) (RT × List UInt8)} (hfg : Exs y (thingF f) (thingF g)) : Exs y (choiceF f) (choiceF g) := fun l a r h => by
  have hr := row_ex hfg
  unfold choiceF at h ⊢
  cases ht : rowF f l with
  | error e => rw [ht] at h; cases h
  | ok v =>
    obtain ⟨t, q⟩ := v
    rw [ht] at h
    rw [hr _ _ _ ht]
    simp only at h ⊢
    cases ha : alts f (q.length + 1) [t] q with
    | error e => rw [ha] at h; cases h
    | ok v =>
      obtain ⟨ts, q2⟩ := v
      rw [ha] at h
      rw [alts_ex hr _ _ (by simp) _ _ _ _ ha]
      cases h; rfl
theorem wtn_ex (y : List UInt8) : Exs y wtn wtn := fun l a r h => by
  match l, h with
  | [], h => cases h
  | c :: q, h =>
    by_cases h92 : c = 92
    · subst h92
      match q, h with
      | [], h => cases h
      | d :: q, h =>
        have e : ∀ q, wtn (92 :: d :: q) = (match mt d with | some x => .ok (([92, d], x), q) | none => .error (d :: q)) := fun _ => rfl
        rw [e] at h
        show wtn (92 :: d :: (q ++ 41 :: y)) = _
        rw [e]
        cases hl : mt d with
        | some x => rw [hl] at h; simp only at h ⊢; cases h; rfl
        | none => rw [hl] at h; cases h
    · have e : ∀ q, wtn (c :: q) = if sp c then .error (c :: q) else .ok (([c], c), q) := fun q => by
        rw [wtn]
        · intro hh; exact absurd hh h92
        · intro _ _ hh; exact absurd hh h92
      rw [e] at h
      show wtn (c :: (q ++ 41 :: y)) = _
      rw [e]
      by_cases hs : sp c = true
      · rw [if_pos hs] at h; cases h
      · rw [if_neg hs] at h ⊢; cases h; rfl
theorem itl_ex (y : List UInt8) : Exs y itl itl := fun l a r h => by
  unfold itl at h ⊢
  cases hw : wtn l with
  | error e => rw [hw] at h; cases h
  | ok v =>
    obtain ⟨⟨w1, x⟩, q⟩ := v
    rw [hw] at h
    rw [wtn_ex y _ _ _ hw]
    cases q with
    | nil => simp only at h; cases h; rfl
    | cons c r2 =>
      simp only [List.cons_append] at h ⊢
      by_cases hc : c = 45
      · rw [if_pos hc] at h ⊢
        cases hw2 : wtn r2 with
        | error e => rw [hw2] at h; cases h
        | ok v =>
          obtain ⟨⟨w2, z⟩, t⟩ := v
          rw [hw2] at h
          rw [wtn_ex y _ _ _ hw2]
          simp only at h ⊢
          by_cases hx : x ≤ z
          · rw [if_pos hx] at h ⊢; cases h; rfl
          · rw [if_neg hx] at h; cases h
      · rw [if_neg hc] at h ⊢; cases h; rfl
theorem cl_ex (y : List UInt8) : ∀ (k k' : Nat) (hk : k ≤ k') (l r : List UInt8), cl k l = .ok ((), r) → cl k' (l ++ 41 :: y) = .ok ((), r ++ 41 :: y)
  | 0, _, _, l, r, h => by simp [cl] at h
  | k + 1, 0, hk, _, _, _ => by omega
  | k + 1, k' + 1, hk, l, r, h => by
    rw [cl] at h ⊢
    cases l with
    | nil =>
      rw [if_neg (by simp)] at h
      have : itl [] = .error [] := rfl
      rw [this] at h; cases h
    | cons c q =>
      by_cases hc : c = 93
      · subst hc
        rw [if_pos (by rfl)] at h ⊢
        cases h; rfl
      · rw [if_neg (by simp [hc])] at h ⊢
        cases hi : itl (c :: q) with
        | error e => rw [hi] at h; cases h
        | ok v =>
          obtain ⟨⟨⟩, q2⟩ := v
          rw [hi] at h
          rw [itl_ex y _ _ _ hi]
          exact cl_ex y k k' (by omega) _ _ h
theorem take_ex (l t x : List UInt8) (h : t.length ≤ l.length) : (l ++ x).take ((l ++ x).length - (t ++ x).length) = l.take (l.length - t.length) := by
  rw [show (l ++ x).length - (t ++ x).length = l.length - t.length by simp; omega, List.take_append_of_le_length (by omega)]
theorem atom_ex {y : List UInt8} {f g : List UInt8 → Except (List UInt8) (RT × List UInt8)} (hfg : Exs y f g) : Exs y (atomF f) (atomF g) := fun l a r h => by
  unfold atomF at h ⊢
  cases l with
  | nil =>
    rw [if_neg (by simp), if_neg (by simp), if_neg (by simp)] at h
    have : sgl [] = .error [] := rfl
    rw [this] at h; cases h
  | cons c q =>
    by_cases h40 : c = 40
    · subst h40
      rw [if_pos (by rfl)] at h ⊢
      simp only [List.cons_append, List.tail_cons] at h ⊢
      cases hf : f q with
      | error e => rw [hf] at h; cases h
      | ok v =>
        obtain ⟨t, q2⟩ := v
        rw [hf] at h
        rw [hfg _ _ _ hf]
        cases q2 with
        | nil => cases h
        | cons d q3 => simp only [List.cons_append] at h ⊢; cases h; rfl
    · rw [if_neg (by simp [h40])] at h ⊢
      by_cases h91 : c = 91
      · subst h91
        rw [if_pos (by rfl)] at h ⊢
        unfold csl at h ⊢
        simp only [List.cons_append, List.tail_cons] at h ⊢
        cases q with
        | nil =>
          have : cl ((hat []).length + 1) (hat []) = .error [] := rfl
          rw [this] at h; cases h
        | cons d q2 =>
          have hh : hat ((d :: q2) ++ 41 :: y) = hat (d :: q2) ++ 41 :: y := by
            unfold hat
            by_cases hd : d = 94
            · subst hd; rw [if_pos (by rfl), if_pos (by rfl)]; rfl
            · rw [if_neg (by simp [hd]), if_neg (by simp [hd])]
          have hhl : (hat (d :: q2)).length ≤ (d :: q2).length := by unfold hat; split <;> simp
          rw [hh]
          cases hc : cl ((hat (d :: q2)).length + 1) (hat (d :: q2)) with
          | error e => rw [hc] at h; cases h
          | ok v =>
            obtain ⟨⟨⟩, t⟩ := v
            rw [hc] at h
            rw [cl_ex y _ _ (by simp) _ _ hc]
            simp only at h ⊢
            have hcl := cl_len _ hc
            have e : csu (91 :: (d :: q2 ++ 41 :: y)) (t ++ 41 :: y) = csu (91 :: d :: q2) t := by
              unfold csu
              rw [show (91 :: (d :: q2 ++ 41 :: y)) = (91 :: d :: q2) ++ 41 :: y from rfl, take_ex _ _ _ (by simp only [List.length_cons] at *; omega)]
            cases h
            rw [e]
      · rw [if_neg (by simp [h91])] at h ⊢
        by_cases h46 : c = 46
        · subst h46
          rw [if_pos (by rfl)] at h ⊢
          cases h; rfl
        · rw [if_neg (by simp [h46])] at h ⊢
          cases hs : sgl (c :: q) with
          | error e => rw [hs] at h; cases h
          | ok v =>
            obtain ⟨d, q2⟩ := v
            rw [hs] at h
            rw [sgl_ex y _ _ _ hs]
            cases h; rfl
theorem thing_ex {y : List UInt8} {f g : List UInt8 → Except (List UInt8) (RT × List UInt8)} (hfg : Exs y f g) : Exs y (thingF f) (thingF g) := fun l a r h => by
  unfold thingF at h ⊢
  cases ha : atomF f l with
  | error e => rw [ha] at h; cases h
  | ok v =>
    obtain ⟨t, q⟩ := v
    rw [ha] at h
    rw [atom_ex hfg _ _ _ ha]
    simp only at h ⊢
    rw [reps_ex]
    cases hr : reps t q with
    | mk a' q' => rw [hr] at h; cases h; rfl
theorem chc_ex (y : List UInt8) : ∀ (k k' : Nat), k ≤ k' → Exs y (chc k) (chc k')
  | 0, _, _ => fun l a r h => by simp [chc] at h
  | k + 1, 0, hk => by omega
  | k + 1, k' + 1, hk => choice_ex (thing_ex (chc_ex y k k' (by omega)))
/-- A pattern's text in brackets is read as the pattern. -/
theorem whole_wrap {l : List UInt8} {t : RT} (h : wholeF l = .ok t) : wholeF (40 :: (l ++ [41])) = .ok t := by
  have hc : chc (l.length + 1) l = .ok (t, []) := by
    unfold wholeF at h
    cases hc : chc (l.length + 1) l with
    | error e => rw [hc] at h; cases h
    | ok v =>
      obtain ⟨t', q⟩ := v
      rw [hc] at h
      cases q with
      | nil => simp only at h; cases h; rfl
      | cons c r => cases h
  have h2 : chc (l.length + 2) (l ++ [41]) = .ok (t, [41]) := chc_ex [] _ (l.length + 2) (by omega) _ _ _ hc
  have ha : atomF (chc (l.length + 2)) (40 :: (l ++ [41])) = .ok (t, []) := by
    unfold atomF
    rw [if_pos (by rfl)]
    simp only [List.tail_cons]
    rw [h2]
  have ht : thingF (chc (l.length + 2)) (40 :: (l ++ [41])) = .ok (t, []) := by
    unfold thingF
    rw [ha]; rfl
  have hr : rowF (chc (l.length + 2)) (40 :: (l ++ [41])) = .ok (t, []) := by
    unfold rowF
    have : thgs (chc (l.length + 2)) ((40 :: (l ++ [41])).length + 1) [] (40 :: (l ++ [41])) = .ok ([t], []) := by
      rw [thgs, if_neg (by decide), ht]
      show thgs _ ((l ++ [41]).length + 1) [t] [] = _
      rw [thgs]
    rw [this]; rfl
  unfold wholeF
  have : chc ((40 :: (l ++ [41])).length + 1) (40 :: (l ++ [41])) = .ok (t, []) := by
    rw [show (40 :: (l ++ [41])).length + 1 = (l.length + 2) + 1 by simp, chc]
    unfold choiceF
    rw [hr]
    show (match alts (chc (l.length + 2)) 1 [t] [] with | .error q => Except.error q | .ok (ts, r) => .ok (joinT 4 ts, r)) = _
    rw [alts, if_neg (by simp)]
    rfl
  rw [this]
end Go.Proofs.YtmjojahkbjlcdaaDoor
end
section
/- Package regs: the reader's small steps: what comes next. -/
namespace Go.Proofs.YtmjojahkbjlcdaaDoor
set_option linter.unusedSimpArgs false
set_option linter.unusedVariables false
set_option maxRecDepth 100000
open Go.RowKit

theorem cat_brackets (s : ByteArray) : ((⟨#[40]⟩ ++ s ++ ⟨#[41]⟩ : ByteArray)).data.toList = 40 :: (s.data.toList ++ [41]) := by
  simp [ByteArray.data_append]
/-- RegsWrap, of whatever text. -/
theorem wrap_any (s : ByteArray) (hs : s.size ≤ 9223372036854775807) (w : World) (hw0 : 0 < w.heap.size) (hT : Tb w) :
    Calls Tryd.prog 11 #[.string s] w fun e w' => e = .returned (.bool true) ∧ Below w.heap.size w w' := by
  have hP := fun w => parse_any5 s hs w
  by_cases h : 256 < s.size
  · exact wrap_err 0 3 (by decide) hw0 hT ((hP w).mono fun e w' k => by unfold ParseP at k; rwa [if_pos h] at k)
  · cases hc : wholeF s.data.toList with
    | error q => exact wrap_err _ 50 (by decide) hw0 hT ((hP w).mono fun e w' k => by unfold ParseP at k; rw [if_neg h, hc] at k; exact k)
    | ok t =>
      by_cases hd : 16 < dep t
      · exact wrap_err 0 51 (by decide) hw0 hT ((hP w).mono fun e w' k => by unfold ParseP at k; rw [if_neg h, hc] at k; simp only at k; rwa [if_pos hd] at k)
      · have hp : Calls Tryd.prog 21 #[.string s] w (ParsedP t w) := (hP w).mono fun e w' k => by unfold ParseP at k; rw [if_neg h, hc] at k; simp only at k; rwa [if_neg hd] at k
        by_cases hl : 254 < s.size
        · exact wrap_long hl hw0 hT hp
        · have hsz := wholeF_sz hc
          have hln : s.data.toList.length = s.size := Array.length_toList
          refine wrap_ok (by omega) (by omega) hw0 hT hp (Lib.hid fun w => ?_)
          have hsb : (⟨#[40]⟩ ++ s ++ ⟨#[41]⟩ : ByteArray).size = s.size + 2 := by
            rw [ByteArray.size_append, ByteArray.size_append]
            show 1 + s.size + 1 = s.size + 2
            omega
          have hcb := cat_brackets s
          obtain ⟨x, hx⟩ : ∃ x, (⟨#[40]⟩ ++ s ++ ⟨#[41]⟩ : ByteArray) = x := ⟨_, rfl⟩
          rw [hx] at hsb hcb ⊢
          refine (parse_any5 x (by omega) w).mono fun e w' k => ?_
          unfold ParseP at k
          rw [if_neg (by omega), hcb, whole_wrap hc] at k
          simp only at k
          rwa [if_neg hd] at k
end Go.Proofs.YtmjojahkbjlcdaaDoor
end
section
/- What the library's listed table gives the walks, and a world in which it lies. -/
namespace Go.Proofs.YtmjojahkbjlcdaaDoor
open Go.ChangeShapes Go.WideShapes Go.ChangeAt Go.RowKit
set_option linter.unusedVariables false
abbrev lst : List (String × DataW Unit) := [("math/bits.deBruijn64tab", Rows.laid_math_bits_deBruijn64tab)]
theorem gTab : Tryd.prog.globalNamed "math/bits.deBruijn64tab" = some 0 := by kernel_rfl
theorem gTabT : (Tryd.prog.globals[0]?).map (·.type) = some 119 := by kernel_rfl
theorem cells5t : Tryd.prog.cellsOf 5 = 1 := by kernel_rfl
theorem cells119 : Tryd.prog.cellsOf 119 = 64 := by kernel_rfl
theorem tab_met (os : Os) (args : Array Value) : laidMetH Tryd.prog lst ((World.doorLaid Tryd.prog 14 os).forCall (fun _ _ => 0) ⟨#[], args, []⟩).memory :=
  laidMetH_of_parts3 (fuel := 8) (laidMet_of_run' 8 (by kernel_rfl) (by kernel_rfl)) (by kernel_rfl) (by kernel_rfl)
theorem tab_of {W : World} (h : laidMetH Tryd.prog lst W) : Tb W ∧ 0 < W.heap.size := by
  rw [MakeChecks.laidMetH_plain _ _ _ (by kernel_rfl)] at h
  have hL : laidMet Tryd.prog (("math/bits.deBruijn64tab", Lib.tabData .u8 (Lib.deBruijn64tab.map fun n : Nat => (n : Int))) :: []) W := h
  have hT := Lib.tabIs_of_head gTab gTabT Tryd.underlying119 Tryd.underlying5 cells5t cells119 hL
  have key : Tb W := fun j hj => by
    rw [hT.cell gTab j (by simpa using hj)]
    congr 2
    simp [List.getD, List.getElem?_map, List.getElem?_eq_getElem hj]
  refine ⟨key, ?_⟩
  have h0 := key 0 (by decide)
  exact World.block_lt_of_cell? W ⟨0, 0, none⟩ h0
end Go.Proofs.YtmjojahkbjlcdaaDoor
end
