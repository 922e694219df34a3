/- Texts of package regs, one behind the other. -/
import Derived.Test.YtmjojahkbjlcdaaDoorProg
import Derived.Test.YtmjojahkbjlcdaaDoorX3
import Derived.Test.YtmjojahkbjlcdaaDoorX4
import Derived.WalkKit
import Derived.WalkLawsBesides
import Derived.WalkSpells
import Derived.Outline
import Derived.Lib.Walk
import Derived.Lib.Hide
import Derived.RegionTactic
import Derived.LoopTactic
import Derived.Below
import Derived.IntWalk
import Derived.Deep.QuietTactic
import Derived.BigQuiet
import Derived.Deep.Cut
import Derived.Deep.CutRange
import Derived.Test.YtmjojahkbjlcdaaDoorX33
import Derived.Test.YtmjojahkbjlcdaaDoorX16
import Derived.Test.YtmjojahkbjlcdaaDoorRows
import Derived.Test.YtmjojahkbjlcdaaDoorX22
import Derived.ProofKit
import Derived.LaidMore
import Derived.OpenShut
import Derived.Stop.Joined
import Derived.Lib.LaidTab
section
/- Package regs: the reader's small steps: what comes next. -/
namespace Go.Proofs.YtmjojahkbjlcdaaDoor
set_option linter.unusedSimpArgs false
set_option linter.unusedVariables false
set_option maxRecDepth 100000
open Go.RowKit

set_option maxHeartbeats 8000000 in
theorem wrap_err {s : ByteArray} {w : World} (m E : Int) (hE : E ≠ 0) (hw0 : 0 < w.heap.size) (hT : Tb w) (hP : Calls Tryd.prog 21 #[.string s] w fun e w' => e = ret3 zeroR m E ∧ Below w.heap.size w w') :
    Calls Tryd.prog 11 #[.string s] w fun e w' => e = .returned (.bool true) ∧ Below w.heap.size w w' := by
  have HP := Lib.hid hP
  have HT := Lib.hid hT
  have hne : (E != 0) = true := by rw [bne_iff_ne]; exact hE
  clear hP hT hE
  go_enter Tryd.func11, Tryd.ntmps11
  go_wp2_with fail
  refine HP.out.mono ?_
  rintro _ w1 ⟨rfl, hb⟩
  unfold ret3 zeroR nodeC u0
  have S1 := Lib.hid ((Sb.start w).up hb)
  have S2 := Lib.hid (S1.out.alloc (.cells #[.int .i64 0, .int .u64 0, .int .u64 0, .int .u64 0, .int .u64 0, .slice none 0 0] 27))
  clear hb HP
  go_wp2_with fail
  have HA := Lib.hid (alive_any (w1.alloc (.cells #[.int .i64 0, .int .u64 0, .int .u64 0, .int .u64 0, .int .u64 0, .slice none 0 0] 27)) (by have := S2.out.1.size; omega) (HT.out.mono (S2.out.1.block 0 hw0)))
  refine HA.out.mono ?_
  rintro _ w3 ⟨rfl, hb⟩
  have S3 := Lib.hid (S2.out.up hb)
  clear hb HA
  go_wp2
  go_ret
  exact ⟨rfl, S3.out.1⟩
set_option maxHeartbeats 8000000 in
theorem wrap_long {s : ByteArray} {t : RT} {w : World} (hl : 254 < s.size) (hw0 : 0 < w.heap.size) (hT : Tb w) (hP : Calls Tryd.prog 21 #[.string s] w (ParsedP t w)) :
    Calls Tryd.prog 11 #[.string s] w fun e w' => e = .returned (.bool true) ∧ Below w.heap.size w w' := by
  have HP := Lib.hid hP
  have HT := Lib.hid hT
  have hl2 : (254 : Int) < (s.size : Int) := by omega
  clear hP hT hl
  go_enter Tryd.func11, Tryd.ntmps11
  go_wp2_with fail
  refine HP.out.mono ?_
  rintro _ w1 ⟨⟨v, rfl, hv⟩, hb⟩
  obtain ⟨k, u, p, n, c, rfl⟩ := hv.form2
  unfold ret3
  have S1 := Lib.hid ((Sb.start w).up hb)
  have S2 := Lib.hid (S1.out.alloc (.cells #[.int .i64 k, .int .u64 (u 0), .int .u64 (u 1), .int .u64 (u 2), .int .u64 (u 3), .slice p n c] 27))
  clear hb HP hv
  go_wp2_with fail
  have HA := Lib.hid (alive_any (w1.alloc (.cells #[.int .i64 k, .int .u64 (u 0), .int .u64 (u 1), .int .u64 (u 2), .int .u64 (u 3), .slice p n c] 27)) (by have := S2.out.1.size; omega) (HT.out.mono (S2.out.1.block 0 hw0)))
  refine HA.out.mono ?_
  rintro _ w3 ⟨rfl, hb⟩
  have S3 := Lib.hid (S2.out.up hb)
  clear hb HA
  go_wp2
  go_ret
  exact ⟨rfl, S3.out.1⟩
set_option maxHeartbeats 8000000 in
theorem wrap_ok {s : ByteArray} {t : RT} {w : World} (hl : s.size ≤ 254) (hsz : sz t ≤ 600) (hw0 : 0 < w.heap.size) (hT : Tb w) (hP : Calls Tryd.prog 21 #[.string s] w (ParsedP t w)) (hP2 : Hid (∀ w, Calls Tryd.prog 21 #[.string (⟨#[40]⟩ ++ s ++ ⟨#[41]⟩)] w (ParsedP t w))) :
    Calls Tryd.prog 11 #[.string s] w fun e w' => e = .returned (.bool true) ∧ Below w.heap.size w w' := by
  have HP := Lib.hid hP
  have HT := Lib.hid hT
  have hl2 : ¬ (254 : Int) < (s.size : Int) := by omega
  clear hP hT hl
  go_enter Tryd.func11, Tryd.ntmps11
  go_wp2_with fail
  refine HP.out.mono ?_
  rintro _ w1 ⟨⟨v, rfl, hv⟩, hb⟩
  obtain ⟨k, u, p, n, c, rfl⟩ := hv.form2
  unfold ret3
  have HB1 := Lib.hid hb
  have HV := Lib.hid hv
  have S2 := Lib.hid ((Sb.start w1).alloc (.cells #[.int .i64 k, .int .u64 (u 0), .int .u64 (u 1), .int .u64 (u 2), .int .u64 (u 3), .slice p n c] 27))
  clear hb HP hv
  go_wp2_with fail
  refine (hP2.out _).mono ?_
  rintro _ w2 ⟨⟨v, rfl, hv⟩, hb⟩
  obtain ⟨k2, u2, p2, n2, c2, rfl⟩ := hv.form2
  unfold ret3
  have S3 := Lib.hid (S2.out.up hb)
  have HV2 := Lib.hid hv
  have hsz1 : w1.heap.size < w2.heap.size := S3.out.lt
  have S4 := Lib.hid (S3.out.alloc (.cells #[.int .i64 k2, .int .u64 (u2 0), .int .u64 (u2 1), .int .u64 (u2 2), .int .u64 (u2 3), .slice p2 n2 c2] 27))
  have hza : Below w2.heap.size w2 (w2.alloc (.cells #[.int .i64 k2, .int .u64 (u2 0), .int .u64 (u2 1), .int .u64 (u2 2), .int .u64 (u2 3), .slice p2 n2 c2] 27)) := (Below.refl _ _).alloc (Nat.le_refl _) _
  have HD : Hid (RV (fun b => b < w2.heap.size) (w2.alloc (.cells #[.int .i64 k2, .int .u64 (u2 0), .int .u64 (u2 1), .int .u64 (u2 2), .int .u64 (u2 3), .slice p2 n2 c2] 27)) t (.agg #[.int .i64 k, .int .u64 (u 0), .int .u64 (u 1), .int .u64 (u 2), .int .u64 (u 3), .slice p n c])) := Lib.hid (RV.mono (fun b h => by have := h.2; omega) (fun b hb' hlt => S4.out.1.block b hlt) HV.out)
  have HE : Hid (RV (fun b => b < w2.heap.size) (w2.alloc (.cells #[.int .i64 k2, .int .u64 (u2 0), .int .u64 (u2 1), .int .u64 (u2 2), .int .u64 (u2 3), .slice p2 n2 c2] 27)) t (.agg #[.int .i64 k2, .int .u64 (u2 0), .int .u64 (u2 1), .int .u64 (u2 2), .int .u64 (u2 3), .slice p2 n2 c2])) := Lib.hid (RV.mono (fun b h => h.2) (fun b hb' hlt => hza.block b hlt) HV2.out)
  clear hb hv S2 S3 hP2 HV HV2 hza
  go_upto_region 5 with fail
  have hw1 := HB1.out.size
  generalize hwy : (w2.alloc (.cells #[.int .i64 k2, .int .u64 (u2 0), .int .u64 (u2 1), .int .u64 (u2 2), .int .u64 (u2 3), .slice p2 n2 c2] 27)) = y at *
  have hyl : w2.heap.size < y.heap.size := by rw [← hwy]; simp
  clear hwy
  generalize hbb : w2.heap.size = b2 at *
  clear hbb
  have HY := Lib.hid fun z (hb : Below y.heap.size y z) => (⟨RV.mono (fun b h => h) (fun b hb' hlt => hb.block b hlt) HD.out, RV.mono (fun b h => h) (fun b hb' hlt => hb.block b hlt) HE.out, fun b h => Nat.lt_trans h (Nat.lt_of_lt_of_le hyl hb.size)⟩ : RV (fun b => b < b2) z t (.agg #[.int .i64 k, .int .u64 (u 0), .int .u64 (u 1), .int .u64 (u 2), .int .u64 (u 3), .slice p n c]) ∧ RV (fun b => b < b2) z t (.agg #[.int .i64 k2, .int .u64 (u2 0), .int .u64 (u2 1), .int .u64 (u2 2), .int .u64 (u2 3), .slice p2 n2 c2]) ∧ ∀ b, b < b2 → b < z.heap.size)
  have hwd : wid t ≤ 9223372036854775806 := by have := wid_sz t; omega
  have HG1 := Lib.hid (big_walk 600 hsz (by omega) (HY.out y (Below.refl _ _)).2.2 (HY.out y (Below.refl _ _)).1)
  have a0 : y.cell? ⟨w1.heap.size, 0, none⟩ = some (.int .i64 k) := S4.out.tl.cell 0
  have a1 : y.cell? ⟨w1.heap.size, 1, none⟩ = some (.int .u64 (u 0)) := S4.out.tl.cell 1
  have a2 : y.cell? ⟨w1.heap.size, 2, none⟩ = some (.int .u64 (u 1)) := S4.out.tl.cell 2
  have a3 : y.cell? ⟨w1.heap.size, 3, none⟩ = some (.int .u64 (u 2)) := S4.out.tl.cell 3
  have a4 : y.cell? ⟨w1.heap.size, 4, none⟩ = some (.int .u64 (u 3)) := S4.out.tl.cell 4
  have a5 : y.cell? ⟨w1.heap.size, 5, none⟩ = some (.slice p n c) := S4.out.tl.cell 5
  go_wp2_with fail
  refine HG1.out.mono ?_
  rintro _ y1 ⟨rfl, hb⟩
  have K1 := Lib.hid hb
  have S5 := Lib.hid (S4.out.up hb)
  have HG2 := Lib.hid (big_walk 600 hsz (by omega) (HY.out y1 hb).2.2 (HY.out y1 hb).2.1)
  clear hb HG1 S4 a0 a1 a2 a3 a4 a5
  have a0 : y1.cell? ⟨b2, 0, none⟩ = some (.int .i64 k2) := S5.out.cell 0
  have a1 : y1.cell? ⟨b2, 1, none⟩ = some (.int .u64 (u2 0)) := S5.out.cell 1
  have a2 : y1.cell? ⟨b2, 2, none⟩ = some (.int .u64 (u2 1)) := S5.out.cell 2
  have a3 : y1.cell? ⟨b2, 3, none⟩ = some (.int .u64 (u2 2)) := S5.out.cell 3
  have a4 : y1.cell? ⟨b2, 4, none⟩ = some (.int .u64 (u2 3)) := S5.out.cell 4
  have a5 : y1.cell? ⟨b2, 5, none⟩ = some (.slice p2 n2 c2) := S5.out.cell 5
  go_wp2_with fail
  refine HG2.out.mono ?_
  rintro _ y2 ⟨rfl, hb⟩
  have K2 := Lib.hid (K1.out.trans (hb.mono K1.out.size))
  have S6 := Lib.hid (S5.out.up hb)
  have HS := Lib.hid (same_true _ t (Nat.le_refl _) hwd (HY.out y2 K2.out).2.2 (HY.out y2 K2.out).2.2 (HY.out y2 K2.out).1 (HY.out y2 K2.out).2.1)
  clear hb HG2 S5 K1 a0 a1 a2 a3 a4 a5
  have a0 : y2.cell? ⟨w1.heap.size, 0, none⟩ = some (.int .i64 k) := S6.out.tl.cell 0
  have a1 : y2.cell? ⟨w1.heap.size, 1, none⟩ = some (.int .u64 (u 0)) := S6.out.tl.cell 1
  have a2 : y2.cell? ⟨w1.heap.size, 2, none⟩ = some (.int .u64 (u 1)) := S6.out.tl.cell 2
  have a3 : y2.cell? ⟨w1.heap.size, 3, none⟩ = some (.int .u64 (u 2)) := S6.out.tl.cell 3
  have a4 : y2.cell? ⟨w1.heap.size, 4, none⟩ = some (.int .u64 (u 3)) := S6.out.tl.cell 4
  have a5 : y2.cell? ⟨w1.heap.size, 5, none⟩ = some (.slice p n c) := S6.out.tl.cell 5
  have b0 : y2.cell? ⟨b2, 0, none⟩ = some (.int .i64 k2) := S6.out.cell 0
  have b1 : y2.cell? ⟨b2, 1, none⟩ = some (.int .u64 (u2 0)) := S6.out.cell 1
  have b3 : y2.cell? ⟨b2, 2, none⟩ = some (.int .u64 (u2 1)) := S6.out.cell 2
  have b4 : y2.cell? ⟨b2, 3, none⟩ = some (.int .u64 (u2 2)) := S6.out.cell 3
  have b5 : y2.cell? ⟨b2, 4, none⟩ = some (.int .u64 (u2 3)) := S6.out.cell 4
  have b6 : y2.cell? ⟨b2, 5, none⟩ = some (.slice p2 n2 c2) := S6.out.cell 5
  go_wp2_with fail
  refine HS.out.mono ?_
  rintro _ y3 ⟨rfl, hb⟩
  have S7 := Lib.hid (S6.out.up hb)
  clear hb HS S6 K2 a0 a1 a2 a3 a4 a5 b0 b1 b3 b4 b5 b6
  have HA := Lib.hid (alive_any y3 (by have := S7.out.1.size; omega) (HT.out.mono ((S7.out.1.block 0 (by omega)).trans (HB1.out.block 0 hw0))))
  go_wp2_with fail
  refine HA.out.mono ?_
  rintro _ y4 ⟨rfl, hb⟩
  have K := Lib.hid (HB1.out.trans ((S7.out.1.trans (hb.mono S7.out.1.size)).mono HB1.out.size))
  clear hb HA
  go_wp2
  go_ret
  exact ⟨rfl, K.out⟩
end Go.Proofs.YtmjojahkbjlcdaaDoor
end
section
/- Package regs: the reader's small steps: what comes next. -/
namespace Go.Proofs.YtmjojahkbjlcdaaDoor
set_option linter.unusedSimpArgs false
set_option linter.unusedVariables false
set_option maxRecDepth 100000
open Go.RowKit

/-- What one reads of a text, the other reads of it with a bracket behind. -/
def Exs {α : Type} (y : List UInt8) (f g : List UInt8 → Except (List UInt8) (α × List UInt8)) : Prop := ∀ l a r, f l = .ok (a, r) → g (l ++ 41 :: y) = .ok (a, r ++ 41 :: y)
theorem sgl_ex (y : List UInt8) : Exs y sgl sgl := fun l a r h => by
  match l, h with
  | [], h => cases h
  | [92], h => cases h
  | 92 :: d :: q, h =>
    have e : sgl (92 :: d :: q) = (match ltr d with | some x => .ok (x, q) | none => if sgs.contains d then .ok (d, q) else .error (d :: q)) := rfl
    have e2 : sgl ((92 :: d :: q) ++ 41 :: y) = (match ltr d with | some x => .ok (x, q ++ 41 :: y) | none => if sgs.contains d then .ok (d, q ++ 41 :: y) else .error (d :: (q ++ 41 :: y))) := rfl
    rw [e] at h
    rw [e2]
    cases hl : ltr d with
    | some x => rw [hl] at h; simp only at h ⊢; cases h; rfl
    | none =>
      rw [hl] at h
      simp only at h ⊢
      by_cases hs : sgs.contains d = true
      · rw [if_pos hs] at h ⊢; cases h; rfl
      · rw [if_neg hs] at h; cases h
  | c :: q, h =>
    by_cases h92 : c = 92
    · subst h92
      match q, h with
      | [], h => cases h
      | d :: q, h =>
        have e : sgl (92 :: d :: q) = (match ltr d with | some x => .ok (x, q) | none => if sgs.contains d then .ok (d, q) else .error (d :: q)) := rfl
        have e2 : sgl ((92 :: d :: q) ++ 41 :: y) = (match ltr d with | some x => .ok (x, q ++ 41 :: y) | none => if sgs.contains d then .ok (d, q ++ 41 :: y) else .error (d :: (q ++ 41 :: y))) := rfl
        rw [e] at h
        rw [e2]
        cases hl : ltr d with
        | some x => rw [hl] at h; simp only at h ⊢; cases h; rfl
        | none =>
          rw [hl] at h
          simp only at h ⊢
          by_cases hs : sgs.contains d = true
          · rw [if_pos hs] at h ⊢; cases h; rfl
          · rw [if_neg hs] at h; cases h
    · have e : ∀ q, sgl (c :: q) = if sgs.contains c then .error (c :: q) else .ok (c, q) := fun q => by
        rw [sgl]
        · intro hh; exact absurd hh h92
        · intro _ _ hh; exact absurd hh h92
      rw [e] at h
      show sgl (c :: (q ++ 41 :: y)) = _
      rw [e]
      by_cases hs : sgs.contains c = true
      · rw [if_pos hs] at h; cases h
      · rw [if_neg hs] at h ⊢; cases h; rfl
theorem reps_ex (y : List UInt8) : ∀ (l : List UInt8) (t : RT), reps t (l ++ 41 :: y) = ((reps t l).1, (reps t l).2 ++ 41 :: y)
  | [], t => by
    show reps t (41 :: y) = _
    rw [reps_stop (show ahl rps (41 :: y) = false from rfl)]; rfl
  | c :: r, t => by
    show reps t (c :: (r ++ 41 :: y)) = _
    rw [reps, reps]
    by_cases h : rps.contains c = true
    · rw [if_pos h, if_pos h]; exact reps_ex y r _
    · rw [if_neg h, if_neg h]; rfl
theorem thgs_ex {y : List UInt8} {f g : List UInt8 → Except (List UInt8) (RT × List UInt8)} (hfg : Exs y (thingF f) (thingF g)) : ∀ (k k' : Nat) (hk : k ≤ k') (ts ts' : List RT) (l r : List UInt8), thgs f k ts l = .ok (ts', r) → thgs g k' ts (l ++ 41 :: y) = .ok (ts', r ++ 41 :: y)
  | 0, _, _, ts, ts', l, r, h => by simp [thgs] at h
  | k + 1, 0, hk, _, _, _, _, _ => by omega
  | k + 1, k' + 1, hk, ts, ts', l, r, h => by
    cases l with
    | nil =>
      have h' : (Except.ok (ts, []) : Except (List UInt8) (List RT × List UInt8)) = .ok (ts', r) := h
      cases h'
      show thgs g (k' + 1) ts (41 :: y) = _
      rw [thgs, if_pos (by decide)]; rfl
    | cons c q =>
      rw [thgs] at h
      show thgs g (k' + 1) ts (c :: (q ++ 41 :: y)) = _
      rw [thgs]
      by_cases hc : ([124, 41] : List UInt8).contains c = true
      · rw [if_pos hc] at h ⊢; cases h; rfl
      · rw [if_neg hc] at h ⊢
        cases ht : thingF f (c :: q) with
        | error e => rw [ht] at h; cases h
        | ok v =>
          obtain ⟨t, q2⟩ := v
          rw [ht] at h
          have := hfg _ _ _ ht
          rw [show (c :: (q ++ 41 :: y)) = (c :: q) ++ 41 :: y from rfl, this]
          exact thgs_ex hfg k k' (by omega) _ _ _ _ h
theorem row_ex {y : List UInt8} {f g : List UInt8 → Except (List UInt8) (RT × List UInt8)} (hfg : Exs y (thingF f) (thingF g)) : Exs y (rowF f) (rowF g) := fun l a r h => by
  unfold rowF at h ⊢
  cases ht : thgs f (l.length + 1) [] l with
  | error e => rw [ht] at h; cases h
  | ok v =>
    obtain ⟨ts, q⟩ := v
    rw [ht] at h
    rw [thgs_ex hfg _ _ (by simp) _ _ _ _ ht]
    cases h; rfl
theorem alts_ex {y : List UInt8} {f g : List UInt8 → Except (List UInt8) (RT × List UInt8)} (hfg : Exs y (rowF f) (rowF g)) : ∀ (k k' : Nat) (hk : k ≤ k') (ts ts' : List RT) (l r : List UInt8), alts f k ts l = .ok (ts', r) → alts g k' ts (l ++ 41 :: y) = .ok (ts', r ++ 41 :: y)
  | 0, _, _, ts, ts', l, r, h => by simp [alts] at h
  | k + 1, 0, hk, _, _, _, _, _ => by omega
  | k + 1, k' + 1, hk, ts, ts', l, r, h => by
    rw [alts] at h ⊢
    cases l with
    | nil =>
      rw [if_neg (by simp)] at h
      cases h
      rw [if_neg (by simp)]
    | cons c q =>
      by_cases hc : c = 124
      · subst hc
        rw [if_pos (by rfl)] at h ⊢
        simp only [List.tail_cons] at h
        simp only [List.cons_append, List.tail_cons]
        cases ht : rowF f q with
        | error e => rw [ht] at h; cases h
        | ok v =>
          obtain ⟨t, q2⟩ := v
          rw [ht] at h
          rw [hfg _ _ _ ht]
          exact alts_ex hfg k k' (by omega) _ _ _ _ h
      · rw [if_neg (by simp [hc])] at h
        rw [if_neg (by simp [hc])]
        cases h; rfl
theorem choice_ex {y : List UInt8} {f g : List UInt8 → Except (List UInt8) (RT × List UInt8)} (hfg : Exs y (thingF f) (thingF g)) : Exs y (choiceF f) (choiceF g) := fun l a r h => by
  have hr := row_ex hfg
  unfold choiceF at h ⊢
  cases ht : rowF f l with
  | error e => rw [ht] at h; cases h
  | ok v =>
    obtain ⟨t, q⟩ := v
    rw [ht] at h
    rw [hr _ _ _ ht]
    simp only at h ⊢
    cases ha : alts f (q.length + 1) [t] q with
    | error e => rw [ha] at h; cases h
    | ok v =>
      obtain ⟨ts, q2⟩ := v
      rw [ha] at h
      rw [alts_ex hr _ _ (by simp) _ _ _ _ ha]
      cases h; rfl
theorem wtn_ex (y : List UInt8) : Exs y wtn wtn := fun l a r h => by
  match l, h with
  | [], h => cases h
  | c :: q, h =>
    by_cases h92 : c = 92
    · subst h92
      match q, h with
      | [], h => cases h
      | d :: q, h =>
        have e : ∀ q, wtn (92 :: d :: q) = (match mt d with | some x => .ok (([92, d], x), q) | none => .error (d :: q)) := fun _ => rfl
        rw [e] at h
        show wtn (92 :: d :: (q ++ 41 :: y)) = _
        rw [e]
        cases hl : mt d with
        | some x => rw [hl] at h; simp only at h ⊢; cases h; rfl
        | none => rw [hl] at h; cases h
    · have e : ∀ q, wtn (c :: q) = if sp c then .error (c :: q) else .ok (([c], c), q) := fun q => by
        rw [wtn]
        · intro hh; exact absurd hh h92
        · intro _ _ hh; exact absurd hh h92
      rw [e] at h
      show wtn (c :: (q ++ 41 :: y)) = _
      rw [e]
      by_cases hs : sp c = true
      · rw [if_pos hs] at h; cases h
      · rw [if_neg hs] at h ⊢; cases h; rfl
theorem itl_ex (y : List UInt8) : Exs y itl itl := fun l a r h => by
  unfold itl at h ⊢
  cases hw : wtn l with
  | error e => rw [hw] at h; cases h
  | ok v =>
    obtain ⟨⟨w1, x⟩, q⟩ := v
    rw [hw] at h
    rw [wtn_ex y _ _ _ hw]
    cases q with
    | nil => simp only at h; cases h; rfl
    | cons c r2 =>
      simp only [List.cons_append] at h ⊢
      by_cases hc : c = 45
      · rw [if_pos hc] at h ⊢
        cases hw2 : wtn r2 with
        | error e => rw [hw2] at h; cases h
        | ok v =>
          obtain ⟨⟨w2, z⟩, t⟩ := v
          rw [hw2] at h
          rw [wtn_ex y _ _ _ hw2]
          simp only at h ⊢
          by_cases hx : x ≤ z
          · rw [if_pos hx] at h ⊢; cases h; rfl
          · rw [if_neg hx] at h; cases h
      · rw [if_neg hc] at h ⊢; cases h; rfl
theorem cl_ex (y : List UInt8) : ∀ (k k' : Nat) (hk : k ≤ k') (l r : List UInt8), cl k l = .ok ((), r) → cl k' (l ++ 41 :: y) = .ok ((), r ++ 41 :: y)
  | 0, _, _, l, r, h => by simp [cl] at h
  | k + 1, 0, hk, _, _, _ => by omega
  | k + 1, k' + 1, hk, l, r, h => by
    rw [cl] at h ⊢
    cases l with
    | nil =>
      rw [if_neg (by simp)] at h
      have : itl [] = .error [] := rfl
      rw [this] at h; cases h
    | cons c q =>
      by_cases hc : c = 93
      · subst hc
        rw [if_pos (by rfl)] at h ⊢
        cases h; rfl
      · rw [if_neg (by simp [hc])] at h ⊢
        cases hi : itl (c :: q) with
        | error e => rw [hi] at h; cases h
        | ok v =>
          obtain ⟨⟨⟩, q2⟩ := v
          rw [hi] at h
          rw [itl_ex y _ _ _ hi]
          exact cl_ex y k k' (by omega) _ _ h
theorem take_ex (l t x : List UInt8) (h : t.length ≤ l.length) : (l ++ x).take ((l ++ x).length - (t ++ x).length) = l.take (l.length - t.length) := by
  rw [show (l ++ x).length - (t ++ x).length = l.length - t.length by simp; omega, List.take_append_of_le_length (by omega)]
theorem atom_ex {y : List UInt8} {f g : List UInt8 → Except (List UInt8) (RT × List UInt8)} (hfg : Exs y f g) : Exs y (atomF f) (atomF g) := fun l a r h => by
  unfold atomF at h ⊢
  cases l with
  | nil =>
    rw [if_neg (by simp), if_neg (by simp), if_neg (by simp)] at h
    have : sgl [] = .error [] := rfl
    rw [this] at h; cases h
  | cons c q =>
    by_cases h40 : c = 40
    · subst h40
      rw [if_pos (by rfl)] at h ⊢
      simp only [List.cons_append, List.tail_cons] at h ⊢
      cases hf : f q with
      | error e => rw [hf] at h; cases h
      | ok v =>
        obtain ⟨t, q2⟩ := v
        rw [hf] at h
        rw [hfg _ _ _ hf]
        cases q2 with
        | nil => cases h
        | cons d q3 => simp only [List.cons_append] at h ⊢; cases h; rfl
    · rw [if_neg (by simp [h40])] at h ⊢
      by_cases h91 : c = 91
      · subst h91
        rw [if_pos (by rfl)] at h ⊢
        unfold csl at h ⊢
        simp only [List.cons_append, List.tail_cons] at h ⊢
        cases q with
        | nil =>
          have : cl ((hat []).length + 1) (hat []) = .error [] := rfl
          rw [this] at h; cases h
        | cons d q2 =>
          have hh : hat ((d :: q2) ++ 41 :: y) = hat (d :: q2) ++ 41 :: y := by
            unfold hat
            by_cases hd : d = 94
            · subst hd; rw [if_pos (by rfl), if_pos (by rfl)]; rfl
            · rw [if_neg (by simp [hd]), if_neg (by simp [hd])]
          have hhl : (hat (d :: q2)).length ≤ (d :: q2).length := by unfold hat; split <;> simp
          rw [hh]
          cases hc : cl ((hat (d :: q2)).length + 1) (hat (d :: q2)) with
          | error e => rw [hc] at h; cases h
          | ok v =>
            obtain ⟨⟨⟩, t⟩ := v
            rw [hc] at h
            rw [cl_ex y _ _ (by simp) _ _ hc]
            simp only at h ⊢
            have hcl := cl_len _ hc
            have e : csu (91 :: (d :: q2 ++ 41 :: y)) (t ++ 41 :: y) = csu (91 :: d :: q2) t := by
              unfold csu
              rw [show (91 :: (d :: q2 ++ 41 :: y)) = (91 :: d :: q2) ++ 41 :: y from rfl, take_ex _ _ _ (by simp only [List.length_cons] at *; omega)]
            cases h
            rw [e]
      · rw [if_neg (by simp [h91])] at h ⊢
        by_cases h46 : c = 46
        · subst h46
          rw [if_pos (by rfl)] at h ⊢
          cases h; rfl
        · rw [if_neg (by simp [h46])] at h ⊢
          cases hs : sgl (c :: q) with
          | error e => rw [hs] at h; cases h
          | ok v =>
            obtain ⟨d, q2⟩ := v
            rw [hs] at h
            rw [sgl_ex y _ _ _ hs]
            cases h; rfl
theorem thing_ex {y : List UInt8} {f g : List UInt8 → Except (List UInt8) (RT × List UInt8)} (hfg : Exs y f g) : Exs y (thingF f) (thingF g) := fun l a r h => by
  unfold thingF at h ⊢
  cases ha : atomF f l with
  | error e => rw [ha] at h; cases h
  | ok v =>
    obtain ⟨t, q⟩ := v
    rw [ha] at h
    rw [atom_ex hfg _ _ _ ha]
    simp only at h ⊢
    rw [reps_ex]
    cases hr : reps t q with
    | mk a' q' => rw [hr] at h; cases h; rfl
theorem chc_ex (y : List UInt8) : ∀ (k k' : Nat), k ≤ k' → Exs y (chc k) (chc k')
  | 0, _, _ => fun l a r h => by simp [chc] at h
  | k + 1, 0, hk => by omega
  | k + 1, k' + 1, hk => choice_ex (thing_ex (chc_ex y k k' (by omega)))
/-- A pattern's text in brackets is read as the pattern. -/
theorem whole_wrap {l : List UInt8} {t : RT} (h : wholeF l = .ok t) : wholeF (40 :: (l ++ [41])) = .ok t := by
  have hc : chc (l.length + 1) l = .ok (t, []) := by
    unfold wholeF at h
    cases hc : chc (l.length + 1) l with
    | error e => rw [hc] at h; cases h
    | ok v =>
      obtain ⟨t', q⟩ := v
      rw [hc] at h
      cases q with
      | nil => simp only at h; cases h; rfl
      | cons c r => cases h
  have h2 : chc (l.length + 2) (l ++ [41]) = .ok (t, [41]) := chc_ex [] _ (l.length + 2) (by omega) _ _ _ hc
  have ha : atomF (chc (l.length + 2)) (40 :: (l ++ [41])) = .ok (t, []) := by
    unfold atomF
    rw [if_pos (by rfl)]
    simp only [List.tail_cons]
    rw [h2]
  have ht : thingF (chc (l.length + 2)) (40 :: (l ++ [41])) = .ok (t, []) := by
    unfold thingF
    rw [ha]; rfl
  have hr : rowF (chc (l.length + 2)) (40 :: (l ++ [41])) = .ok (t, []) := by
    unfold rowF
    have : thgs (chc (l.length + 2)) ((40 :: (l ++ [41])).length + 1) [] (40 :: (l ++ [41])) = .ok ([t], []) := by
      rw [thgs, if_neg (by decide), ht]
      show thgs _ ((l ++ [41]).length + 1) [t] [] = _
      rw [thgs]
    rw [this]; rfl
  unfold wholeF
  have : chc ((40 :: (l ++ [41])).length + 1) (40 :: (l ++ [41])) = .ok (t, []) := by
    rw [show (40 :: (l ++ [41])).length + 1 = (l.length + 2) + 1 by simp, chc]
    unfold choiceF
    rw [hr]
    show (match alts (chc (l.length + 2)) 1 [t] [] with | .error q => Except.error q | .ok (ts, r) => .ok (joinT 4 ts, r)) = _
    rw [alts, if_neg (by simp)]
    rfl
  rw [this]
end Go.Proofs.YtmjojahkbjlcdaaDoor
end
section
/- Package regs: the reader's small steps: what comes next. -/
namespace Go.Proofs.YtmjojahkbjlcdaaDoor
set_option linter.unusedSimpArgs false
set_option linter.unusedVariables false
set_option maxRecDepth 100000
open Go.RowKit

theorem cat_brackets (s : ByteArray) : ((⟨#[40]⟩ ++ s ++ ⟨#[41]⟩ : ByteArray)).data.toList = 40 :: (s.data.toList ++ [41]) := by
  simp [ByteArray.data_append]
/-- RegsWrap, of whatever text. -/
theorem wrap_any (s : ByteArray) (hs : s.size ≤ 9223372036854775807) (w : World) (hw0 : 0 < w.heap.size) (hT : Tb w) :
    Calls Tryd.prog 11 #[.string s] w fun e w' => e = .returned (.bool true) ∧ Below w.heap.size w w' := by
  have hP := fun w => parse_any5 s hs w
  by_cases h : 256 < s.size
  · exact wrap_err 0 3 (by decide) hw0 hT ((hP w).mono fun e w' k => by unfold ParseP at k; rwa [if_pos h] at k)
  · cases hc : wholeF s.data.toList with
    | error q => exact wrap_err _ 50 (by decide) hw0 hT ((hP w).mono fun e w' k => by unfold ParseP at k; rw [if_neg h, hc] at k; exact k)
    | ok t =>
      by_cases hd : 16 < dep t
      · exact wrap_err 0 51 (by decide) hw0 hT ((hP w).mono fun e w' k => by unfold ParseP at k; rw [if_neg h, hc] at k; simp only at k; rwa [if_pos hd] at k)
      · have hp : Calls Tryd.prog 21 #[.string s] w (ParsedP t w) := (hP w).mono fun e w' k => by unfold ParseP at k; rw [if_neg h, hc] at k; simp only at k; rwa [if_neg hd] at k
        by_cases hl : 254 < s.size
        · exact wrap_long hl hw0 hT hp
        · have hsz := wholeF_sz hc
          have hln : s.data.toList.length = s.size := Array.length_toList
          refine wrap_ok (by omega) (by omega) hw0 hT hp (Lib.hid fun w => ?_)
          have hsb : (⟨#[40]⟩ ++ s ++ ⟨#[41]⟩ : ByteArray).size = s.size + 2 := by
            rw [ByteArray.size_append, ByteArray.size_append]
            show 1 + s.size + 1 = s.size + 2
            omega
          have hcb := cat_brackets s
          obtain ⟨x, hx⟩ : ∃ x, (⟨#[40]⟩ ++ s ++ ⟨#[41]⟩ : ByteArray) = x := ⟨_, rfl⟩
          rw [hx] at hsb hcb ⊢
          refine (parse_any5 x (by omega) w).mono fun e w' k => ?_
          unfold ParseP at k
          rw [if_neg (by omega), hcb, whole_wrap hc] at k
          simp only at k
          rwa [if_neg hd] at k
end Go.Proofs.YtmjojahkbjlcdaaDoor
end
section
/- What was read may be. -/
namespace Go.Proofs.YtmjojahkbjlcdaaDoor
set_option linter.unusedSimpArgs false
set_option linter.unusedVariables false
set_option maxRecDepth 100000
open Go.RowKit
/-- A tree that may be, its letters those of sets. -/
def Gd (t : RT) : Prop := mayB t = true ∧ okT t
def GdL (ts : List RT) : Prop := mayL ts = true ∧ okL ts
theorem okU_wf (f : Nat → Bool) : okU (wf f) := fun i hi => by
  have h : ∀ k, k < 64 → fOf (wf f) (64 * i + k) = f (64 * i + k) := fun k hk => by
    unfold fOf
    have e1 : (64 * i + k) / 64 = i := by omega
    have e2 : (64 * i + k) % 64 = k := by omega
    rw [e1, e2]
    show ((W f i : Nat) : Int).toNat.testBit k = _
    rw [Int.toNat_natCast, W_test f i k hk]
  show ((W f i : Nat) : Int) = ((W (fOf (wf f)) i : Nat) : Int)
  rw [W_congr i h]
theorem okU_u0 : okU u0 := fun i hi => by
  have h : ∀ k, k < 64 → fOf u0 (64 * i + k) = noS (64 * i + k) := fun k hk => by simp [fOf, u0, noS]
  show (0 : Int) = ((W (fOf u0) i : Nat) : Int)
  rw [W_congr i h, W_noS]; rfl
theorem gd_set {u : Nat → Int} (h : okU u) : Gd (setT u) := by
  refine ⟨?_, ?_⟩
  · simp [setT, mayB, mayL, fitsB]
  · simp [setT, okT, okL, h]
theorem gd_uO (o : Option (Nat → Bool)) : okU (uO o) := by
  cases o with
  | none => exact okU_u0
  | some f => exact okU_wf f
theorem gd_one {k : Int} {t : RT} (hk : k = 5 ∨ k = 6 ∨ k = 7) (h : Gd t) : Gd (.mk k u0 [t]) := by
  obtain ⟨h1, h2⟩ := h
  refine ⟨?_, ?_⟩
  · have hz : zeroU u0 = true := by decide
    rcases hk with rfl | rfl | rfl <;> simp [mayB, mayL, fitsB, h1, hz]
  · rw [okT]
    refine ⟨fun e => by omega, ?_⟩
    simp [okL, h2]
theorem gd_many {k : Int} {ts : List RT} (hk : k = 3 ∨ k = 4) (hn : ts ≠ []) (h : GdL ts) : Gd (.mk k u0 ts) := by
  obtain ⟨h1, h2⟩ := h
  have hz : zeroU u0 = true := by decide
  have hp : 0 < ts.length := List.length_pos_iff.2 hn
  refine ⟨?_, ?_⟩
  · rcases hk with rfl | rfl <;> simp [mayB, fitsB, h1, hz, hp]
  · rw [okT]
    exact ⟨fun e => by omega, h2⟩
theorem gdl_snoc {ts : List RT} {t : RT} (h : GdL ts) (g : Gd t) : GdL (ts ++ [t]) := by
  induction ts with
  | nil => exact ⟨by simp [mayL, g.1], by simp [okL, g.2]⟩
  | cons a ts ih =>
    obtain ⟨h1, h2⟩ := h
    rw [mayL, Bool.and_eq_true] at h1
    rw [okL] at h2
    have := ih ⟨h1.2, h2.2⟩
    exact ⟨by rw [List.cons_append, mayL, h1.1, this.1]; rfl, by rw [List.cons_append, okL]; exact ⟨h2.1, this.2⟩⟩
theorem gd_join {k : Int} {ts : List RT} (hk : k = 3 ∨ k = 4) (hn : ts ≠ []) (h : GdL ts) : Gd (joinT k ts) := by
  match ts, hn, h with
  | [t], _, h =>
    obtain ⟨h1, h2⟩ := h
    rw [mayL, Bool.and_eq_true] at h1
    rw [okL] at h2
    exact ⟨h1.1, h2.1⟩
  | a :: b :: ts, hn, h => exact gd_many hk hn h
def GdF (f : List UInt8 → Except (List UInt8) (RT × List UInt8)) : Prop := ∀ l t r, f l = .ok (t, r) → Gd t
theorem gd_atom {f : List UInt8 → Except (List UInt8) (RT × List UInt8)} (hf : GdF f) : GdF (atomF f) := fun l t r h => by
  unfold atomF at h
  split at h
  · cases hc : f l.tail with
    | error e => rw [hc] at h; cases h
    | ok v =>
      obtain ⟨t', q⟩ := v
      rw [hc] at h
      cases q with
      | nil => cases h
      | cons d q => simp only at h; cases h; exact hf _ _ _ hc
  · split at h
    · cases hc : csl l with
      | error e => rw [hc] at h; cases h
      | ok v =>
        obtain ⟨v, q⟩ := v
        rw [hc] at h
        cases h
        exact gd_set (gd_uO _)
    · split at h
      · cases h; exact gd_set (okU_wf _)
      · cases hc : sgl l with
        | error e => rw [hc] at h; cases h
        | ok v =>
          obtain ⟨c, q⟩ := v
          rw [hc] at h
          cases h
          exact gd_set (okU_wf _)
theorem rps_kind {c : UInt8} (h : rps.contains c = true) : (5 + Lib.indexByte rps c : Int) = 5 ∨ (5 + Lib.indexByte rps c : Int) = 6 ∨ (5 + Lib.indexByte rps c : Int) = 7 := by
  simp only [rps, List.contains_cons, List.contains_nil, Bool.or_false, Bool.or_eq_true, beq_iff_eq] at h
  rcases h with rfl | rfl | rfl
  · exact .inl (by decide)
  · exact .inr (.inl (by decide))
  · exact .inr (.inr (by decide))
theorem gd_reps : ∀ (l : List UInt8) (t : RT), Gd t → Gd (reps t l).1
  | [], t, h => h
  | c :: r, t, h => by
    rw [reps]
    by_cases hc : rps.contains c = true
    · rw [if_pos hc]; exact gd_reps r _ (gd_one (rps_kind hc) h)
    · rw [if_neg hc]; exact h
theorem gd_thing {f : List UInt8 → Except (List UInt8) (RT × List UInt8)} (hf : GdF f) : GdF (thingF f) := fun l t r h => by
  unfold thingF at h
  cases hc : atomF f l with
  | error e => rw [hc] at h; cases h
  | ok v =>
    obtain ⟨t', q⟩ := v
    rw [hc] at h
    simp only at h
    have := gd_reps q t' (gd_atom hf _ _ _ hc)
    cases h2 : reps t' q with
    | mk a b => rw [h2] at h this; cases h; exact this
theorem gd_thgs {f : List UInt8 → Except (List UInt8) (RT × List UInt8)} (hf : GdF f) : ∀ (k : Nat) (ts ts' : List RT) (l r : List UInt8), GdL ts → thgs f k ts l = .ok (ts', r) → GdL ts'
  | 0, ts, ts', l, r, _, h => by simp [thgs] at h
  | k + 1, ts, ts', l, r, hg, h => by
    cases l with
    | nil =>
      have h' : (Except.ok (ts, []) : Except (List UInt8) (List RT × List UInt8)) = .ok (ts', r) := h
      cases h'; exact hg
    | cons c q =>
      rw [thgs] at h
      by_cases hc : ([124, 41] : List UInt8).contains c = true
      · rw [if_pos hc] at h; cases h; exact hg
      · rw [if_neg hc] at h
        cases ht : thingF f (c :: q) with
        | error e => rw [ht] at h; cases h
        | ok v =>
          obtain ⟨t, q2⟩ := v
          rw [ht] at h
          exact gd_thgs hf k _ _ _ _ (gdl_snoc hg (gd_thing hf _ _ _ ht)) h
theorem gd_row {f : List UInt8 → Except (List UInt8) (RT × List UInt8)} (hf : GdF f) : GdF (rowF f) := fun l t r h => by
  unfold rowF at h
  cases hc : thgs f (l.length + 1) [] l with
  | error e => rw [hc] at h; cases h
  | ok v =>
    obtain ⟨ts, q⟩ := v
    rw [hc] at h
    cases h
    have := gd_thgs hf _ _ _ _ _ ⟨by simp [mayL], by simp [okL]⟩ hc
    cases ts with
    | nil => exact ⟨by decide, by simp [rowT, okT, okL]⟩
    | cons a ts => exact gd_join (.inl rfl) (by simp) this
theorem gd_alts {f : List UInt8 → Except (List UInt8) (RT × List UInt8)} (hf : GdF f) : ∀ (k : Nat) (ts ts' : List RT) (l r : List UInt8), GdL ts → ts ≠ [] → alts f k ts l = .ok (ts', r) → GdL ts' ∧ ts' ≠ []
  | 0, ts, ts', l, r, _, _, h => by simp [alts] at h
  | k + 1, ts, ts', l, r, hg, hn, h => by
    rw [alts] at h
    split at h
    · cases ht : rowF f l.tail with
      | error e => rw [ht] at h; cases h
      | ok v =>
        obtain ⟨t, q⟩ := v
        rw [ht] at h
        exact gd_alts hf k _ _ _ _ (gdl_snoc hg (gd_row hf _ _ _ ht)) (by simp) h
    · cases h; exact ⟨hg, hn⟩
theorem gd_choice {f : List UInt8 → Except (List UInt8) (RT × List UInt8)} (hf : GdF f) : GdF (choiceF f) := fun l t r h => by
  unfold choiceF at h
  cases ht : rowF f l with
  | error e => rw [ht] at h; cases h
  | ok v =>
    obtain ⟨t', q⟩ := v
    rw [ht] at h
    simp only at h
    cases ha : alts f (q.length + 1) [t'] q with
    | error e => rw [ha] at h; cases h
    | ok v =>
      obtain ⟨ts, q2⟩ := v
      rw [ha] at h
      cases h
      have g := gd_row hf _ _ _ ht
      obtain ⟨h1, h2⟩ := gd_alts hf _ _ _ _ _ (gdl_snoc (ts := []) ⟨by simp [mayL], by simp [okL]⟩ g) (by simp) ha
      exact gd_join (.inr rfl) h2 h1
theorem gd_chc : ∀ k, GdF (chc k)
  | 0 => fun l t r h => by simp [chc] at h
  | k + 1 => gd_choice (gd_chc k)
/-- What was read may be. -/
theorem gd_whole {l : List UInt8} {t : RT} (h : wholeF l = .ok t) : Gd t := by
  unfold wholeF at h
  cases hc : chc (l.length + 1) l with
  | error e => rw [hc] at h; cases h
  | ok v =>
    obtain ⟨t', q⟩ := v
    rw [hc] at h
    cases q with
    | nil => cases h; exact gd_chc _ _ _ _ hc
    | cons c r => cases h
end Go.Proofs.YtmjojahkbjlcdaaDoor
end
section
/- Two patterns in brackets. -/
namespace Go.Proofs.YtmjojahkbjlcdaaDoor
set_option linter.unusedSimpArgs false
set_option linter.unusedVariables false
set_option maxRecDepth 100000
open Go.RowKit
theorem chc_of_whole {l : List UInt8} {t : RT} (h : wholeF l = .ok t) : chc (l.length + 1) l = .ok (t, []) := by
  unfold wholeF at h
  cases hc : chc (l.length + 1) l with
  | error e => rw [hc] at h; cases h
  | ok v =>
    obtain ⟨t', q⟩ := v
    rw [hc] at h
    cases q with
    | nil => simp only at h; cases h; rfl
    | cons c r => cases h
/-- A pattern in brackets, as a thing. -/
theorem thing_br {l y : List UInt8} {t : RT} {n : Nat} (h : wholeF l = .ok t) (hn : l.length + 1 ≤ n) (hy : ahl rps y = false) : thingF (chc n) (40 :: (l ++ 41 :: y)) = .ok (t, y) := by
  have h2 : chc n (l ++ 41 :: y) = .ok (t, 41 :: y) := chc_ex y _ n hn _ _ _ (chc_of_whole h)
  unfold thingF
  have ha : atomF (chc n) (40 :: (l ++ 41 :: y)) = .ok (t, y) := by
    unfold atomF
    rw [if_pos (by rfl)]
    simp only [List.tail_cons]
    rw [h2]
  rw [ha]
  show Except.ok (reps t y) = _
  rw [reps_stop hy]
theorem whole_two {l1 l2 : List UInt8} {t1 t2 : RT} (h1 : wholeF l1 = .ok t1) (h2 : wholeF l2 = .ok t2) : wholeF (40 :: (l1 ++ 41 :: 40 :: (l2 ++ [41]))) = .ok (.mk 3 u0 [t1, t2]) := by
  unfold wholeF
  obtain ⟨n, hn⟩ : ∃ n, (40 :: (l1 ++ 41 :: 40 :: (l2 ++ [41]))).length = n := ⟨_, rfl⟩
  rw [hn]
  have hl : l1.length + l2.length + 4 = n := by rw [← hn]; simp; omega
  have hr : rowF (chc n) (40 :: (l1 ++ 41 :: 40 :: (l2 ++ [41]))) = .ok (.mk 3 u0 [t1, t2], []) := by
    unfold rowF
    rw [hn]
    have : thgs (chc n) (n + 1) [] (40 :: (l1 ++ 41 :: 40 :: (l2 ++ [41]))) = .ok ([t1, t2], []) := by
      obtain ⟨m, hm⟩ : ∃ m, n = m + 1 := ⟨n - 1, by omega⟩
      obtain ⟨m2, hm2⟩ : ∃ m2, m = m2 + 1 := ⟨m - 1, by omega⟩
      rw [thgs, if_neg (by decide), thing_br h1 (by omega) (by rfl)]
      simp only
      rw [hm, thgs, if_neg (by decide), ← hm, thing_br h2 (by omega) (by rfl)]
      simp only
      rw [hm2, thgs]
      rfl
    rw [this]; rfl
  rw [chc]
  unfold choiceF
  rw [hr]
  show (match (match alts (chc n) 1 [.mk 3 u0 [t1, t2]] [] with | .error q => Except.error q | .ok (ts, r) => .ok (joinT 4 ts, r)) with | .error q => Except.error q | .ok (t, q) => match q with | [] => .ok t | c :: r => .error (c :: r)) = _
  rw [alts, if_neg (by simp)]
  rfl
theorem whole_or {l1 l2 : List UInt8} {t1 t2 : RT} (h1 : wholeF l1 = .ok t1) (h2 : wholeF l2 = .ok t2) : wholeF (40 :: (l1 ++ 41 :: 124 :: 40 :: (l2 ++ [41]))) = .ok (.mk 4 u0 [t1, t2]) := by
  unfold wholeF
  obtain ⟨n, hn⟩ : ∃ n, (40 :: (l1 ++ 41 :: 124 :: 40 :: (l2 ++ [41]))).length = n := ⟨_, rfl⟩
  rw [hn]
  have hl : l1.length + l2.length + 5 = n := by rw [← hn]; simp; omega
  have hr : rowF (chc n) (40 :: (l1 ++ 41 :: 124 :: 40 :: (l2 ++ [41]))) = .ok (t1, 124 :: 40 :: (l2 ++ [41])) := by
    unfold rowF
    rw [hn]
    have : thgs (chc n) (n + 1) [] (40 :: (l1 ++ 41 :: 124 :: 40 :: (l2 ++ [41]))) = .ok ([t1], 124 :: 40 :: (l2 ++ [41])) := by
      obtain ⟨m, hm⟩ : ∃ m, n = m + 1 := ⟨n - 1, by omega⟩
      rw [thgs, if_neg (by decide), thing_br h1 (by omega) (by rfl)]
      simp only
      rw [hm, thgs, if_pos (by decide)]
      rfl
    rw [this]; rfl
  have hr2 : rowF (chc n) (40 :: (l2 ++ [41])) = .ok (t2, []) := by
    unfold rowF
    have : thgs (chc n) ((40 :: (l2 ++ [41])).length + 1) [] (40 :: (l2 ++ [41])) = .ok ([t2], []) := by
      rw [thgs, if_neg (by decide), thing_br h2 (by omega) (by rfl)]
      simp only
      show thgs _ ((l2 ++ [41]).length + 1) _ [] = _
      rw [thgs]
      rfl
    rw [this]; rfl
  rw [chc]
  unfold choiceF
  rw [hr]
  have ha : alts (chc n) ((124 :: 40 :: (l2 ++ [41])).length + 1) [t1] (124 :: 40 :: (l2 ++ [41])) = .ok ([t1, t2], []) := by
    rw [alts, if_pos (by rfl)]
    simp only [List.tail_cons]
    rw [hr2]
    simp only
    show alts _ ((40 :: (l2 ++ [41])).length + 1) _ [] = _
    rw [alts, if_neg (by simp)]
    rfl
  simp only
  rw [ha]
  rfl
/-- Two patterns, one behind the other, match a text just if it can be parted so. -/
theorem lg_two (t1 t2 : RT) (w : List UInt8) : Lg (.mk 3 u0 [t1, t2]) w ↔ ∃ i, i ≤ w.length ∧ Lg t1 (w.take i) ∧ Lg t2 (w.drop i) := by
  rw [Lg]
  simp only [show ¬ ((3 : Int) = 0) by decide, show ¬ ((3 : Int) = 1) by decide, show ¬ ((3 : Int) = 2) by decide, if_false, if_true]
  rw [LgR]
  constructor
  · rintro ⟨a, b, rfl, h1, h2⟩
    rw [LgR] at h2
    obtain ⟨c, d, rfl, h3, h4⟩ := h2
    rw [LgR] at h4
    subst h4
    rw [List.append_nil] at *
    exact ⟨a.length, by simp, by simpa using h1, by simpa using h3⟩
  · rintro ⟨i, hi, h1, h2⟩
    refine ⟨w.take i, w.drop i, (List.take_append_drop i w).symm, h1, ?_⟩
    rw [LgR]
    exact ⟨w.drop i, [], by simp, h2, by rw [LgR]⟩
theorem lg_or (t1 t2 : RT) (w : List UInt8) : Lg (.mk 4 u0 [t1, t2]) w ↔ Lg t1 w ∨ Lg t2 w := by
  rw [Lg]
  simp only [show ¬ ((4 : Int) = 0) by decide, show ¬ ((4 : Int) = 1) by decide, show ¬ ((4 : Int) = 2) by decide, show ¬ ((4 : Int) = 3) by decide, if_false, if_true]
  rw [LgC, LgC, LgC]
  simp
end Go.Proofs.YtmjojahkbjlcdaaDoor
end
section
/- What the library's listed table gives the walks, and a world in which it lies. -/
namespace Go.Proofs.YtmjojahkbjlcdaaDoor
open Go.ChangeShapes Go.WideShapes Go.ChangeAt Go.RowKit
set_option linter.unusedVariables false
abbrev lst : List (String × DataW Unit) := [("math/bits.deBruijn64tab", Rows.laid_math_bits_deBruijn64tab)]
theorem gTab : Tryd.prog.globalNamed "math/bits.deBruijn64tab" = some 0 := by kernel_rfl
theorem gTabT : (Tryd.prog.globals[0]?).map (·.type) = some 119 := by kernel_rfl
theorem cells5t : Tryd.prog.cellsOf 5 = 1 := by kernel_rfl
theorem cells119 : Tryd.prog.cellsOf 119 = 64 := by kernel_rfl
theorem tab_met (os : Os) (args : Array Value) : laidMetH Tryd.prog lst ((World.doorLaid Tryd.prog 14 os).forCall (fun _ _ => 0) ⟨#[], args, []⟩).memory :=
  laidMetH_of_parts3 (fuel := 8) (laidMet_of_run' 8 (by kernel_rfl) (by kernel_rfl)) (by kernel_rfl) (by kernel_rfl)
theorem tab_of {W : World} (h : laidMetH Tryd.prog lst W) : Tb W ∧ 0 < W.heap.size := by
  rw [MakeChecks.laidMetH_plain _ _ _ (by kernel_rfl)] at h
  have hL : laidMet Tryd.prog (("math/bits.deBruijn64tab", Lib.tabData .u8 (Lib.deBruijn64tab.map fun n : Nat => (n : Int))) :: []) W := h
  have hT := Lib.tabIs_of_head gTab gTabT Tryd.underlying119 Tryd.underlying5 cells5t cells119 hL
  have key : Tb W := fun j hj => by
    rw [hT.cell gTab j (by simpa using hj)]
    congr 2
    simp [List.getD, List.getElem?_map, List.getElem?_eq_getElem hj]
  refine ⟨key, ?_⟩
  have h0 := key 0 (by decide)
  exact World.block_lt_of_cell? W ⟨0, 0, none⟩ h0
end Go.Proofs.YtmjojahkbjlcdaaDoor
end
