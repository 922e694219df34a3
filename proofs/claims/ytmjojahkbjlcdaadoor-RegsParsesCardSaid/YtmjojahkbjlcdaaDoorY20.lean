/- Texts of package regs, one behind the other. -/
import Derived.Test.YtmjojahkbjlcdaaDoorProg
import Derived.Test.YtmjojahkbjlcdaaDoorY3
import Derived.Test.YtmjojahkbjlcdaaDoorY4
import Derived.WalkKit
import Derived.WalkLawsBesides
import Derived.WalkSpells
import Derived.Outline
import Derived.Lib.Walk
import Derived.Lib.Hide
import Derived.RegionTactic
import Derived.LoopTactic
import Derived.Below
import Derived.IntWalk
import Derived.Deep.QuietTactic
import Derived.BigQuiet
import Derived.Test.YtmjojahkbjlcdaaDoorG21
section
/- Package regs: the reader's small steps: what comes next. -/
namespace Go.Proofs.YtmjojahkbjlcdaaDoor
set_option linter.unusedSimpArgs false
set_option linter.unusedVariables false
set_option maxRecDepth 100000
open Go.RowKit

mutual
def sz : RT → Nat
  | .mk _ _ ps => szL ps + 1
def szL : List RT → Nat
  | [] => 0
  | t :: ts => sz t + szL ts
end
theorem sz_pos (t : RT) : 1 ≤ sz t := by cases t; simp [sz]
theorem szL_app : ∀ (a b : List RT), szL (a ++ b) = szL a + szL b
  | [], b => by simp [szL]
  | t :: a, b => by have := szL_app a b; simp only [List.cons_append, szL]; omega
theorem len_szL : ∀ (ts : List RT), ts.length ≤ szL ts
  | [] => by simp [szL]
  | t :: ts => by have := len_szL ts; have := sz_pos t; simp only [List.length_cons, szL]; omega
mutual
theorem dep_sz : ∀ (t : RT), dep t ≤ sz t
  | .mk k u ps => by have := depL_sz ps; simp only [dep, sz]; omega
theorem depL_sz : ∀ (ts : List RT), depL ts ≤ szL ts
  | [] => by simp [depL, szL]
  | t :: ts => by have := dep_sz t; have := depL_sz ts; simp only [depL, szL]; omega
end
mutual
theorem wid_sz : ∀ (t : RT), wid t ≤ sz t
  | .mk k u ps => by have := widL_sz ps; have := len_szL ps; simp only [wid, sz]; omega
theorem widL_sz : ∀ (ts : List RT), widL ts ≤ szL ts
  | [] => by simp [widL, szL]
  | t :: ts => by have := wid_sz t; have := widL_sz ts; simp only [widL, szL]; omega
end
def Szs (ch : List UInt8 → Except (List UInt8) (RT × List UInt8)) : Prop := ∀ l t r, ch l = .ok (t, r) → sz t + 2 * r.length ≤ 2 * l.length + 1
theorem reps_sz : ∀ (l : List UInt8) (t : RT), sz (reps t l).1 + 2 * (reps t l).2.length ≤ sz t + 2 * l.length
  | [], t => by simp [reps]
  | c :: r, t => by
    rw [reps]
    split
    · have := reps_sz r (.mk (5 + Lib.indexByte rps c) u0 [t])
      simp only [sz, szL] at this
      simp only [List.length_cons]; omega
    · exact Nat.le_refl _
theorem set_sz (u : Nat → Int) : sz (setT u) = 1 := by simp [setT, sz, szL]
theorem atomF_sz {ch : List UInt8 → Except (List UInt8) (RT × List UInt8)} (hch : Ons ch) (hsz : Szs ch) {l r : List UInt8} {t : RT} (h : atomF ch l = .ok (t, r)) : sz t + 1 + 2 * r.length ≤ 2 * l.length := by
  have hlt := atomF_lt hch h
  unfold atomF at h
  by_cases h1 : l.head? = some 40
  · rw [if_pos h1] at h
    cases hc : ch l.tail with
    | error q => rw [hc] at h; cases h
    | ok v =>
      obtain ⟨t', q⟩ := v
      rw [hc] at h
      have h2 := hsz _ _ _ hc
      cases q with
      | nil => cases h
      | cons c q' => cases h; simp only [List.length_cons, List.length_tail] at h2 ⊢; omega
  · rw [if_neg h1] at h
    by_cases h2 : l.head? = some 91
    · rw [if_pos h2] at h
      cases hc : csl l with
      | error e => rw [hc] at h; cases h
      | ok v => obtain ⟨x, t'⟩ := v; rw [hc] at h; cases h; rw [set_sz]; omega
    · rw [if_neg h2] at h
      by_cases h3 : l.head? = some 46
      · rw [if_pos h3] at h; cases h; rw [set_sz]; omega
      · rw [if_neg h3] at h
        cases hc : sgl l with
        | error e => rw [hc] at h; cases h
        | ok v => obtain ⟨b, q⟩ := v; rw [hc] at h; cases h; rw [set_sz]; omega
theorem thingF_sz {ch : List UInt8 → Except (List UInt8) (RT × List UInt8)} (hch : Ons ch) (hsz : Szs ch) {l r : List UInt8} {t : RT} (h : thingF ch l = .ok (t, r)) : sz t + 1 + 2 * r.length ≤ 2 * l.length := by
  unfold thingF at h
  cases hc : atomF ch l with
  | error q => rw [hc] at h; cases h
  | ok v =>
    obtain ⟨t', q⟩ := v
    rw [hc] at h
    have h1 := atomF_sz hch hsz hc
    have h2 := reps_sz q t'
    have e : reps t' q = (t, r) := by injection h
    rw [e] at h2
    simp only at h2
    omega
theorem thgs_sz {ch : List UInt8 → Except (List UInt8) (RT × List UInt8)} (hch : Ons ch) (hsz : Szs ch) : ∀ (k : Nat) {ts ts' : List RT} {l r : List UInt8}, thgs ch k ts l = .ok (ts', r) → szL ts' + ts'.length + 2 * r.length ≤ szL ts + ts.length + 2 * l.length
  | 0, ts, ts', l, r, h => by simp [thgs] at h
  | k + 1, ts, ts', [], r, h => by simp only [thgs] at h; cases h; exact Nat.le_refl _
  | k + 1, ts, ts', c :: l, r, h => by
    rw [thgs] at h
    by_cases hc : ([124, 41] : List UInt8).contains c
    · rw [if_pos hc] at h; cases h; exact Nat.le_refl _
    · rw [if_neg hc] at h
      cases ht : thingF ch (c :: l) with
      | error q => rw [ht] at h; cases h
      | ok v =>
        obtain ⟨t, q⟩ := v
        rw [ht] at h
        have h1 := thingF_sz hch hsz ht
        have h2 := thgs_sz hch hsz k h
        rw [szL_app] at h2
        simp only [szL, List.length_append, List.length_cons, List.length_nil] at h1 h2 ⊢
        omega
theorem joinT_sz (k : Int) : ∀ (ts : List RT), sz (joinT k ts) + ts.length ≤ szL ts + max ts.length 1 + (if ts.length = 1 then 0 else 1)
  | [] => by simp [joinT, sz, szL]
  | [t] => by simp [joinT, szL]
  | a :: b :: ts => by simp only [joinT, sz, List.length_cons]; rw [if_neg (by omega)]; omega
theorem rowF_sz {ch : List UInt8 → Except (List UInt8) (RT × List UInt8)} (hch : Ons ch) (hsz : Szs ch) {l r : List UInt8} {t : RT} (h : rowF ch l = .ok (t, r)) : sz t + 2 * r.length ≤ 2 * l.length + 1 := by
  unfold rowF at h
  cases hc : thgs ch (l.length + 1) [] l with
  | error q => rw [hc] at h; cases h
  | ok v =>
    obtain ⟨ts, q⟩ := v
    rw [hc] at h
    have h1 := thgs_sz hch hsz _ hc
    simp only [szL, List.length_nil] at h1
    cases h
    cases ts with
    | nil => simp only [rowT, sz, szL, List.length_nil] at h1 ⊢; omega
    | cons a ts =>
      have h2 := joinT_sz 3 (a :: ts)
      show sz (joinT 3 (a :: ts)) + _ ≤ _
      by_cases hl : (a :: ts).length = 1
      · rw [if_pos hl] at h2; omega
      · rw [if_neg hl] at h2; have : 2 ≤ (a :: ts).length := by simp only [List.length_cons] at hl ⊢; omega
        omega
theorem alts_sz {ch : List UInt8 → Except (List UInt8) (RT × List UInt8)} (hch : Ons ch) (hsz : Szs ch) : ∀ (k : Nat) {ts ts' : List RT} {l r : List UInt8}, alts ch k ts l = .ok (ts', r) → szL ts' + ts'.length + 2 * r.length ≤ szL ts + ts.length + 2 * l.length ∧ ts.length ≤ ts'.length
  | 0, ts, ts', l, r, h => by simp [alts] at h
  | k + 1, ts, ts', l, r, h => by
    rw [alts] at h
    by_cases hc : l.head? = some 124
    · rw [if_pos hc] at h
      cases ht : rowF ch l.tail with
      | error q => rw [ht] at h; cases h
      | ok v =>
        obtain ⟨t, q⟩ := v
        rw [ht] at h
        have h1 := rowF_sz hch hsz ht
        have h2 := alts_sz hch hsz k h
        rw [szL_app] at h2
        have h3 : l.tail.length + 1 = l.length := by
          cases l with
          | nil => simp at hc
          | cons c r => simp
        simp only [szL, List.length_append, List.length_cons, List.length_nil] at h1 h2 ⊢
        omega
    · rw [if_neg hc] at h; cases h; exact ⟨Nat.le_refl _, Nat.le_refl _⟩
theorem choiceF_sz {ch : List UInt8 → Except (List UInt8) (RT × List UInt8)} (hch : Ons ch) (hsz : Szs ch) : Szs (choiceF ch) := fun l t r h => by
  unfold choiceF at h
  cases hc : rowF ch l with
  | error q => rw [hc] at h; cases h
  | ok v =>
    obtain ⟨t', q⟩ := v
    rw [hc] at h
    have h1 := rowF_sz hch hsz hc
    simp only at h
    cases hd : alts ch (q.length + 1) [t'] q with
    | error e => rw [hd] at h; cases h
    | ok v2 =>
      obtain ⟨ts, r'⟩ := v2
      rw [hd] at h
      have h2 := alts_sz hch hsz _ hd
      cases h
      have h3 := joinT_sz 4 ts
      simp only [szL, List.length_cons, List.length_nil] at h2
      by_cases hl : ts.length = 1
      · rw [if_pos hl] at h3; omega
      · rw [if_neg hl] at h3; omega
theorem chc_sz : ∀ k, Szs (chc k)
  | 0 => fun l t r h => by simp [chc] at h
  | k + 1 => choiceF_sz (chc_on k) (chc_sz k)
theorem wholeF_sz {l : List UInt8} {t : RT} (h : wholeF l = .ok t) : sz t ≤ 2 * l.length + 1 := by
  unfold wholeF at h
  cases hc : chc (l.length + 1) l with
  | error q => rw [hc] at h; cases h
  | ok v =>
    obtain ⟨t', q⟩ := v
    rw [hc] at h
    have h1 := chc_sz _ _ _ _ hc
    cases q with
    | nil => cases h; omega
    | cons c r => cases h
/-- What Parse does. -/
def ParseP (s : ByteArray) (w : World) (e : Ending) (w' : World) : Prop :=
  if 256 < s.size then e = ret3 zeroR 0 3 ∧ Below w.heap.size w w'
  else match wholeF s.data.toList with
    | .error q => e = ret3 zeroR (s.size - q.length : Nat) 50 ∧ Below w.heap.size w w'
    | .ok t => if 16 < dep t then e = ret3 zeroR 0 51 ∧ Below w.heap.size w w' else ParsedP t w e w'
theorem parse_any5 (s : ByteArray) (hs : s.size ≤ 9223372036854775807) (w : World) : Calls Tryd.prog 21 #[.string s] w (ParseP s w) := by
  by_cases h : 256 < s.size
  · exact (parse_long h hs w).mono fun e w' k => by unfold ParseP; rw [if_pos h]; exact k
  · have hl : s.data.toList.length = s.size := by simp
    have hW := fun rb w hg => whole_any (rb := rb) (w := w) (q := s.data.toList) (s := s) (by omega) hg
    cases hc : wholeF s.data.toList with
    | error q =>
      rw [hc] at hW
      exact (parse_boom (q := q) (by omega) w (Lib.hid fun rb w hg => hW rb w hg)).mono fun e w' k => by unfold ParseP; rw [if_neg h, hc]; exact k
    | ok t =>
      rw [hc] at hW
      have h1 := wholeF_sz hc
      have h2 := dep_sz t
      have h3 := wid_sz t
      by_cases hd : 16 < dep t
      · exact (parse_deep (by omega) w hd (by omega) (by omega) (Lib.hid fun rb w hg => hW rb w hg)).mono fun e w' k => by unfold ParseP; rw [if_neg h, hc]; simp only [hd, if_true]; exact k
      · exact (parse_ok (by omega) w hd (by omega) (by omega) (Lib.hid fun rb w hg => hW rb w hg)).mono fun e w' k => by unfold ParseP; rw [if_neg h, hc]; simp only [hd, if_false]; exact k
end Go.Proofs.YtmjojahkbjlcdaaDoor
end
section
/- Package regs: the reader's small steps: what comes next. -/
namespace Go.Proofs.YtmjojahkbjlcdaaDoor
set_option linter.unusedSimpArgs false
set_option linter.unusedVariables false
set_option maxRecDepth 100000
open Go.RowKit

mutual
/-- How many patterns there are, behind n: it stops where there are too many. -/
def cnt : Nat → RT → Nat
  | n, .mk _ _ ps => cntL (n + 1) ps
def cntL : Nat → List RT → Nat
  | n, [] => n
  | n, t :: ts => if 512 < n then n else cntL (cnt n t) ts
end
mutual
theorem cnt_eq : ∀ (n : Nat) (t : RT), n ≤ 512 → cnt n t = min (n + sz t) 513
  | n, .mk k u ps, h => by
    have := cntL_eq (n + 1) ps (by omega)
    simp only [cnt, sz]; omega
theorem cntL_eq : ∀ (n : Nat) (ts : List RT), n ≤ 513 → cntL n ts = min (n + szL ts) 513
  | n, [], h => by simp only [cntL, szL]; omega
  | n, t :: ts, h => by
    rw [cntL]
    by_cases hn : 512 < n
    · rw [if_pos hn]; have := sz_pos t; simp only [szL]; omega
    · rw [if_neg hn]
      have h1 := cnt_eq n t (by omega)
      have h2 := cntL_eq (cnt n t) ts (by omega)
      rw [h2, h1]
      simp only [szL]; omega
end
theorem cntL_stop {n : Nat} (ts : List RT) (h : 512 < n) : cntL n ts = n := by
  cases ts with
  | nil => rfl
  | cons t ts => rw [cntL, if_pos h]
theorem cntL_drop {n : Nat} {ts : List RT} {j : Nat} (h : j < ts.length) (hn : ¬ 512 < n) : cntL n (ts.drop j) = cntL (cnt n ts[j]) (ts.drop (j + 1)) := by
  rw [List.drop_eq_getElem_cons h, cntL, if_neg hn]
set_option maxHeartbeats 4000000 in
theorem counted_walk {D : Nat → Prop} {k : Int} {u : Nat → Int} {ps : List RT} {v : Value} {w : World} (n : Nat) (hn : n ≤ 512) (hD : ∀ b, D b → b < w.heap.size) (hl : ps.length ≤ 9223372036854775806) (h : RV D w (.mk k u ps) v)
    (hI : Hid (∀ i (hi : i < ps.length) m v w, m ≤ 512 → RV D w ps[i] v → (∀ b, D b → b < w.heap.size) → Calls Tryd.prog 30 #[.int .i64 (m : Nat), v] w fun e w' => e = .returned (.int .i64 (cnt m ps[i] : Nat)) ∧ Below w.heap.size w w')) :
    Calls Tryd.prog 30 #[.int .i64 n, v] w fun e w' => e = .returned (.int .i64 (cntL (n + 1) ps : Nat)) ∧ Below w.heap.size w w' := by
  obtain ⟨p, c, rfl, hp⟩ := h.parts
  have HP := Lib.hid hp
  have hz := zero27l
  clear h hp
  have S0 := Lib.hid ((Sb.start w).alloc (.cells #[.int .i64 k, .int .u64 (u 0), .int .u64 (u 1), .int .u64 (u 2), .int .u64 (u 3), .slice p ps.length c] 27))
  obtain ⟨R, hR⟩ : ∃ R, cntL (n + 1) ps = R := ⟨_, rfl⟩
  rw [hR]
  have HR := Lib.hid hR
  clear hR
  go_enter Tryd.func30, Tryd.ntmps30
  go_wp2
  go_loopw [0, 12] (fun m i wr => ∃ j m' : Nat, j ≤ ps.length ∧ i = .int .i64 j ∧ m = .int .i64 m' ∧ m' ≤ 513 ∧ Hid (cntL m' (ps.drop j) = R) ∧ Sb w wr [(w.heap.size, .cells #[.int .i64 k, .int .u64 (u 0), .int .u64 (u 1), .int .u64 (u 2), .int .u64 (u 3), .slice p ps.length c] 27)]) (fun _ i _ => ps.length - (intOf i).toNat)
  case atStart => exact ⟨0, n + 1, by omega, rfl, by go_num, by omega, HR, S0.out⟩
  case round =>
    obtain ⟨j, m, hj, rfl, rfl, hm, HC, hS⟩ := hrel
    have HS := Lib.hid hS
    clear hS S0 HR
    by_cases hlt : j < ps.length
    · have hne : ps ≠ [] := by intro e; subst e; simp at hlt
      obtain ⟨b, o, rfl, hDb, hx⟩ := HP.out hne
      obtain ⟨k', u', p', n', c', hv, hcell⟩ := hx j hlt
      have hbw := hD b hDb
      have hB := HS.out.1
      have HV := Lib.hid ((RV.mono (fun b h => h) (fun x hx hlt => hB.block x hlt) hv).mono (fun b h => h) (fun x hx hlt => heap_alloc_old wr (.cells #[.int .i64 k', .int .u64 (u' 0), .int .u64 (u' 1), .int .u64 (u' 2), .int .u64 (u' 3), .slice p' n' c'] 27) hlt))
      have HD := Lib.hid fun x (hx : D x) => (by have h1 := hD x hx; have h2 := hB.size; simp; omega : x < (wr.alloc (.cells #[.int .i64 k', .int .u64 (u' 0), .int .u64 (u' 1), .int .u64 (u' 2), .int .u64 (u' 3), .slice p' n' c'] 27)).heap.size)
      have cc : ∀ i y, (nodeC k' u' (.slice p' n' c'))[i]? = some y → wr.cell? ⟨b, o + j * 6 + i, none⟩ = some y := fun i y hy => by
        rw [hB.cell (p := ⟨b, o + j * 6 + i, none⟩) hbw, ← hcell i y hy, show o + j * 6 + i = o + (6 * j + i) by omega]
      have d0 : wr.cell? ⟨b, o + j * 6, none⟩ = some (.int .i64 k') := cc 0 _ rfl
      have d1 : wr.cell? ⟨b, o + j * 6 + 1, none⟩ = some (.int .u64 (u' 0)) := cc 1 _ rfl
      have d2 : wr.cell? ⟨b, o + j * 6 + 2, none⟩ = some (.int .u64 (u' 1)) := cc 2 _ rfl
      have d3 : wr.cell? ⟨b, o + j * 6 + 3, none⟩ = some (.int .u64 (u' 2)) := cc 3 _ rfl
      have d4 : wr.cell? ⟨b, o + j * 6 + 4, none⟩ = some (.int .u64 (u' 3)) := cc 4 _ rfl
      have d5 : wr.cell? ⟨b, o + j * 6 + 5, none⟩ = some (.slice p' n' c') := cc 5 _ rfl
      have HW := Lib.hid (HS.out.up ((Below.refl _ _).alloc (Nat.le_refl _) (.cells #[.int .i64 k', .int .u64 (u' 0), .int .u64 (u' 1), .int .u64 (u' 2), .int .u64 (u' 3), .slice p' n' c'] 27)))
      have hlt' : (j : Int) < (ps.length : Int) := by omega
      by_cases hm2 : 512 < m
      · have hr : m = R := by rw [← HC.out, cntL_stop _ hm2]
        subst hr
        have hm3 : (512 : Int) < (m : Int) := by omega
        clear hcell hv cc hx hB HC
        go_wp2
        go_ret
        exact ⟨rfl, HW.out.1⟩
      · have hm3 : ¬ (512 : Int) < (m : Int) := by omega
        have HC2 := Lib.hid ((cntL_drop hlt hm2).symm.trans HC.out)
        have hIj := Lib.hid (hI.out j hlt m)
        have hc9 : cnt m ps[j] ≤ 513 := by rw [cnt_eq m ps[j] (by omega)]; omega
        generalize hd1 : cnt m ps[j] = d at *
        have hm5 : m ≤ 512 := by omega
        clear hcell hv cc hx hd1 hB HC
        go_wp2_with fail
        refine (hIj.out _ _ hm5 HV.out HD.out).mono ?_
        rintro _ w5 ⟨rfl, hb⟩
        have H5 := Lib.hid (HW.out.up hb)
        clear hb
        go_wp2_with fail
        go_roundw
        case rel => exact ⟨j + 1, d, by omega, by go_num, rfl, hc9, HC2, H5.out⟩
        case measure => simp [intOf]; omega
    · obtain rfl : j = ps.length := by omega
      have hlt' : ¬ ((ps.length : Int) < (ps.length : Int)) := by omega
      have HB := Lib.hid HS.out.1
      have hr : m = R := by rw [← HC.out, List.drop_length]; rfl
      subst hr
      go_wp2
      go_ret
      exact ⟨rfl, HB.out⟩
theorem counted_any {D : Nat → Prop} : ∀ (d : Nat) (t : RT) (n : Nat) {v : Value} {w : World}, dep t ≤ d → n ≤ 512 → (∀ b, D b → b < w.heap.size) → wid t ≤ 9223372036854775806 → RV D w t v → Calls Tryd.prog 30 #[.int .i64 (n : Nat), v] w fun e w' => e = .returned (.int .i64 (cnt n t : Nat)) ∧ Below w.heap.size w w'
  | 0, .mk k u ps, n, v, w, hn, _, _, _, h => by simp [dep] at hn
  | d + 1, .mk k u ps, n, v, w, hn, hn2, hD, hw, h => by
    obtain ⟨hl, hw2⟩ := wid_mk hw
    refine counted_walk n hn2 hD hl h (Lib.hid fun i hi m v' w' hm hv hD' => ?_)
    exact counted_any d ps[i] m (by have := depL_get ps i hi; simp only [dep] at hn; omega) hm hD' (hw2 i hi) hv
set_option maxHeartbeats 2000000 in
theorem size_any {D : Nat → Prop} {t : RT} {v : Value} {w : World} (hD : ∀ b, D b → b < w.heap.size) (hw : wid t ≤ 9223372036854775806) (h : RV D w t v) :
    Calls Tryd.prog 14 #[v] w fun e w' => e = .returned (.int .i64 (min (sz t) 513 : Nat)) ∧ Below w.heap.size w w' := by
  obtain ⟨k, u, p, n, c, rfl⟩ := h.form2
  have S0 := Lib.hid ((Sb.start w).alloc (.cells #[.int .i64 k, .int .u64 (u 0), .int .u64 (u 1), .int .u64 (u 2), .int .u64 (u 3), .slice p n c] 27))
  have HC := Lib.hid (counted_any (dep t) t 0 (w := w.alloc (.cells #[.int .i64 k, .int .u64 (u 0), .int .u64 (u 1), .int .u64 (u 2), .int .u64 (u 3), .slice p n c] 27)) (Nat.le_refl _) (by omega) (fun b hb => by have := hD b hb; simp; omega) hw (h.mono (fun b h => h) (fun b hb hlt => heap_alloc_old w _ hlt)))
  have he : cnt 0 t = min (sz t) 513 := by rw [cnt_eq 0 t (by omega)]; omega
  rw [he] at HC
  clear h he
  go_enter Tryd.func14, Tryd.ntmps14
  go_wp2_with fail
  refine HC.out.mono ?_
  rintro _ w1 ⟨rfl, hb⟩
  have H1 := Lib.hid (S0.out.up hb)
  clear hb
  go_wp2
  go_ret
  exact ⟨rfl, H1.out.1⟩
end Go.Proofs.YtmjojahkbjlcdaaDoor
end
section
/- Package regs: the reader's small steps: what comes next. -/
namespace Go.Proofs.YtmjojahkbjlcdaaDoor
set_option linter.unusedSimpArgs false
set_option linter.unusedVariables false
set_option maxRecDepth 100000
open Go.RowKit

def fitsB (k : Int) (n : Nat) : Bool := if k = 0 ∨ k = 1 ∨ k = 2 then n == 0 else if k = 3 ∨ k = 4 then decide (0 < n) else if k = 5 ∨ k = 6 ∨ k = 7 then n == 1 else false
theorem rb {a b : Bool} (h : a = b) : Ending.returned (.bool a) = .returned (.bool b) := by rw [h]
theorem nat_beq (n c : Nat) : ((n : Int) == (c : Int)) = (n == c) := by
  rw [Bool.eq_iff_iff]; simp; omega
set_option maxHeartbeats 4000000 in
theorem fits_any (k : Int) (n : Nat) (w : World) : Calls Tryd.prog 46 #[.int .i64 k, .int .i64 n] w fun e w' => e = .returned (.bool (fitsB k n)) ∧ w = w' := by
  have h1 := nat_beq n 0
  have h2 := nat_beq n 1
  have H1 := Lib.hid h1
  have H2 := Lib.hid h2
  clear h1 h2
  by_cases h : k = 0 ∨ k = 1 ∨ k = 2
  · have hf : Hid (fitsB k n = (n == 0)) := Lib.hid (by unfold fitsB; rw [if_pos h])
    rcases h with rfl | rfl | rfl
    all_goals
      go_enter Tryd.func46, Tryd.ntmps46
      go_wp2
      go_ret
      exact ⟨rb (by first | (rw [hf.out]; done) | (rw [hf.out]; first | rfl | exact H1.out | simp)), rfl⟩
  · by_cases h' : k = 3 ∨ k = 4
    · have hf : Hid (fitsB k n = decide (0 < n)) := Lib.hid (by unfold fitsB; rw [if_neg h, if_pos h'])
      rcases h' with rfl | rfl
      all_goals
        go_enter Tryd.func46, Tryd.ntmps46
        go_wp2
        go_ret
        exact ⟨rb (by first | (rw [hf.out]; done) | (rw [hf.out]; first | rfl | simp)), rfl⟩
    · by_cases h'' : k = 5 ∨ k = 6 ∨ k = 7
      · have hf : Hid (fitsB k n = (n == 1)) := Lib.hid (by unfold fitsB; rw [if_neg h, if_neg h', if_pos h''])
        rcases h'' with rfl | rfl | rfl
        all_goals
          go_enter Tryd.func46, Tryd.ntmps46
          go_wp2
          go_ret
          exact ⟨rb (by first | (rw [hf.out]; done) | (rw [hf.out]; first | rfl | exact H2.out | simp)), rfl⟩
      · have hf : Hid (fitsB k n = false) := Lib.hid (by unfold fitsB; rw [if_neg h, if_neg h', if_neg h''])
        have e0 : (k == 0) = false := by rw [beq_eq_false_iff_ne]; omega
        have e1 : (k == 1) = false := by rw [beq_eq_false_iff_ne]; omega
        have e2 : (k == 2) = false := by rw [beq_eq_false_iff_ne]; omega
        have e3 : (k == 3) = false := by rw [beq_eq_false_iff_ne]; omega
        have e4 : (k == 4) = false := by rw [beq_eq_false_iff_ne]; omega
        have e5 : (k == 5) = false := by rw [beq_eq_false_iff_ne]; omega
        have e6 : (k == 6) = false := by rw [beq_eq_false_iff_ne]; omega
        have e7 : (k == 7) = false := by rw [beq_eq_false_iff_ne]; omega
        clear h h' h''
        go_enter Tryd.func46, Tryd.ntmps46
        go_wp2
        go_ret
        exact ⟨rb hf.out.symm, rfl⟩
def zeroU (u : Nat → Int) : Bool := u 0 == 0 && (u 1 == 0 && (u 2 == 0 && u 3 == 0))
theorem eq22g (n : Nat) (x y : Int) (w : World) : (Op.equalIn (n + 1) 22 (.int .u64 x) (.int .u64 y)).run Tryd.prog w = .ok (x == y) w := by
  rw [Op.equalIn]
  simp [run_underlying Tryd.underlying22]
set_option maxHeartbeats 2000000 in
theorem neq24g (u : Nat → Int) (w : World) : (binOp .neq 24 (.agg #[.int .u64 (u 0), .int .u64 (u 1), .int .u64 (u 2), .int .u64 (u 3)]) (.agg #[.int .u64 0, .int .u64 0, .int .u64 0, .int .u64 0])).run Tryd.prog w = .ok (.bool (!zeroU u)) w := by
  have h : ∀ (x : Int) w, (Op.equalIn 9999 22 (.int .u64 x) (.int .u64 0)).run Tryd.prog w = .ok (x == 0) w := fun x w => eq22g 9998 x 0 w
  have e : ∀ w, (Op.equalIn 10000 24 (.agg #[.int .u64 (u 0), .int .u64 (u 1), .int .u64 (u 2), .int .u64 (u 3)]) (.agg #[.int .u64 0, .int .u64 0, .int .u64 0, .int .u64 0])).run Tryd.prog w = .ok (zeroU u) w := fun w => by
    rw [show (10000 : Nat) = 9999 + 1 from rfl, Op.equalIn]
    unfold zeroU
    by_cases a0 : u 0 = 0
    · by_cases a1 : u 1 = 0
      · by_cases a2 : u 2 = 0
        · by_cases a3 : u 3 = 0
          · simp [run_underlying Tryd.underlying24, Tryd.sizeOf22, Std.Legacy.Range.forIn_eq_forIn_range', List.range', part, h, a0, a1, a2, a3]
          · simp [run_underlying Tryd.underlying24, Tryd.sizeOf22, Std.Legacy.Range.forIn_eq_forIn_range', List.range', part, h, a0, a1, a2, a3]
        · simp [run_underlying Tryd.underlying24, Tryd.sizeOf22, Std.Legacy.Range.forIn_eq_forIn_range', List.range', part, h, a0, a1, a2]
      · simp [run_underlying Tryd.underlying24, Tryd.sizeOf22, Std.Legacy.Range.forIn_eq_forIn_range', List.range', part, h, a0, a1]
    · simp [run_underlying Tryd.underlying24, Tryd.sizeOf22, Std.Legacy.Range.forIn_eq_forIn_range', List.range', part, h, a0]
  simp only [binOp]
  simp [Op.equal, Op.maxDepth, e]
end Go.Proofs.YtmjojahkbjlcdaaDoor
end
