/- Texts of package regs, one behind the other. -/
import Derived.Test.YtmjojahkbjlcdaaDoorProg
import Derived.Test.YtmjojahkbjlcdaaDoorY3
import Derived.Test.YtmjojahkbjlcdaaDoorY4
import Derived.WalkKit
import Derived.WalkLawsBesides
import Derived.WalkSpells
import Derived.Outline
import Derived.Lib.Walk
import Derived.Lib.Hide
import Derived.RegionTactic
import Derived.LoopTactic
import Derived.Below
import Derived.IntWalk
import Derived.Deep.QuietTactic
import Derived.BigQuiet
import Derived.Test.YtmjojahkbjlcdaaDoorG16
import Derived.Defers
import Derived.Recover
section
/- Package regs: the reader's small steps: what comes next. -/
namespace Go.Proofs.YtmjojahkbjlcdaaDoor
set_option linter.unusedSimpArgs false
set_option linter.unusedVariables false
set_option maxRecDepth 100000
open Go.RowKit

mutual
def dep : RT → Nat
  | .mk _ _ ps => depL ps + 1
def depL : List RT → Nat
  | [] => 0
  | t :: ts => max (dep t) (depL ts)
end
theorem depL_get : ∀ (ts : List RT) (i : Nat) (h : i < ts.length), dep ts[i] ≤ depL ts
  | t :: ts, 0, h => by show dep t ≤ max (dep t) (depL ts); omega
  | t :: ts, i + 1, h => by
    have := depL_get ts i (by simpa using h)
    show dep (ts[i]'(by simpa using h)) ≤ max (dep t) (depL ts); omega
theorem depL_snoc : ∀ (ts : List RT) (t : RT), depL (ts ++ [t]) = max (depL ts) (dep t)
  | [], t => by show max (dep t) (depL []) = max (depL []) (dep t); simp [depL]
  | a :: ts, t => by
    have := depL_snoc ts t
    show max (dep a) (depL (ts ++ [t])) = max (max (dep a) (depL ts)) (dep t)
    rw [this]; omega
theorem depL_take (ts : List RT) (i : Nat) (h : i < ts.length) : depL (ts.take (i + 1)) = max (depL (ts.take i)) (dep ts[i]) := by
  rw [List.take_succ_eq_append_getElem h, depL_snoc]
/-- What lies in a part. -/
theorem RV.parts {D : Nat → Prop} {w : World} {k : Int} {u : Nat → Int} {ps : List RT} {v : Value} (h : RV D w (.mk k u ps) v) : ∃ p c, v = .agg #[.int .i64 k, .int .u64 (u 0), .int .u64 (u 1), .int .u64 (u 2), .int .u64 (u 3), .slice p ps.length c] ∧
    (ps ≠ [] → ∃ b o, p = some ⟨b, o, none⟩ ∧ D b ∧ ∀ i (hi : i < ps.length), ∃ k' u' p' n' c', RV D w ps[i] (.agg #[.int .i64 k', .int .u64 (u' 0), .int .u64 (u' 1), .int .u64 (u' 2), .int .u64 (u' 3), .slice p' n' c']) ∧
      (∀ j (y : Value), (nodeC k' u' (.slice p' n' c'))[j]? = some y → w.cell? ⟨b, o + (6 * i + j), none⟩ = some y)) := by
  cases h with
  | leaf k u p c => exact ⟨p, c, rfl, fun h => absurd rfl h⟩
  | node k u ps b o c xs hD hn hx hc =>
    refine ⟨_, c, rfl, fun _ => ⟨b, o, rfl, hD, fun i hi => ?_⟩⟩
    obtain ⟨k', u', p', n', c', hf⟩ := (hx i hi).form
    have hxs : xs i = nodeC k' u' (.slice p' n' c') := by injection hf
    refine ⟨k', u', p', n', c', by have h7 := hx i hi; rw [hxs] at h7; exact h7, fun j y hy => ?_⟩
    have hj : j < 6 := (Array.getElem?_eq_some_iff.1 hy).1
    obtain ⟨y', h5, h6⟩ := hc i hi j hj
    rw [hxs, hy] at h5
    cases h5
    exact h6
theorem zero27l (w : World) : (zeroValue 27).run Tryd.prog w = .ok (.agg #[.int .i64 0, .int .u64 0, .int .u64 0, .int .u64 0, .int .u64 0, .slice none 0 0]) w := zero27r w
theorem vint5 {k : IntKind} {a b : Int} (h : a = b) : Value.int k a = .int k b := by rw [h]
theorem ret_int {k : IntKind} {a b : Int} (h : a = b) : Ending.returned (.int k a) = .returned (.int k b) := by rw [h]
mutual
def wid : RT → Nat
  | .mk _ _ ps => max ps.length (widL ps)
def widL : List RT → Nat
  | [] => 0
  | t :: ts => max (wid t) (widL ts)
end
theorem widL_get : ∀ (ts : List RT) (i : Nat) (h : i < ts.length), wid ts[i] ≤ widL ts
  | t :: ts, 0, h => by show wid t ≤ max (wid t) (widL ts); omega
  | t :: ts, i + 1, h => by
    have := widL_get ts i (by simpa using h)
    show wid (ts[i]'(by simpa using h)) ≤ max (wid t) (widL ts); omega
theorem wid_mk {k : Int} {u : Nat → Int} {ps : List RT} {n : Nat} (h : wid (.mk k u ps) ≤ n) : ps.length ≤ n ∧ ∀ i (hi : i < ps.length), wid ps[i] ≤ n := by
  have h1 : max ps.length (widL ps) ≤ n := h
  exact ⟨by omega, fun i hi => by have := widL_get ps i hi; omega⟩
set_option maxHeartbeats 4000000 in
theorem depth_walk {D : Nat → Prop} {k : Int} {u : Nat → Int} {ps : List RT} {v : Value} {w : World} (hD : ∀ b, D b → b < w.heap.size) (hl : ps.length ≤ 1000) (hdd : depL ps ≤ 1000) (h : RV D w (.mk k u ps) v)
    (hI : Hid (∀ i (hi : i < ps.length) v w, RV D w ps[i] v → (∀ b, D b → b < w.heap.size) → Calls Tryd.prog 31 #[v] w fun e w' => e = .returned (.int .i64 (dep ps[i] : Nat)) ∧ Below w.heap.size w w')) :
    Calls Tryd.prog 31 #[v] w fun e w' => e = .returned (.int .i64 ((depL ps + 1 : Nat) : Nat)) ∧ Below w.heap.size w w' := by
  obtain ⟨p, c, rfl, hp⟩ := h.parts
  have HP := Lib.hid hp
  have hz := zero27l
  clear h hp
  have S0 := Lib.hid ((Sb.start w).alloc (.cells #[.int .i64 k, .int .u64 (u 0), .int .u64 (u 1), .int .u64 (u 2), .int .u64 (u 3), .slice p ps.length c] 27))
  go_enter Tryd.func31, Tryd.ntmps31
  go_wp2
  go_loopw [3, 9] (fun m i wr => ∃ j : Nat, j ≤ ps.length ∧ i = .int .i64 j ∧ m = .int .i64 (depL (ps.take j) : Nat) ∧ Sb w wr [(w.heap.size, .cells #[.int .i64 k, .int .u64 (u 0), .int .u64 (u 1), .int .u64 (u 2), .int .u64 (u 3), .slice p ps.length c] 27)]) (fun _ i _ => ps.length - (intOf i).toNat)
  case atStart => exact ⟨0, by omega, rfl, rfl, S0.out⟩
  case round =>
    obtain ⟨j, hj, rfl, rfl, hS⟩ := hrel
    have HS := Lib.hid hS
    clear hS S0
    by_cases hlt : j < ps.length
    · have hne : ps ≠ [] := by intro e; subst e; simp at hlt
      obtain ⟨b, o, rfl, hDb, hx⟩ := HP.out hne
      obtain ⟨k', u', p', n', c', hv, hcell⟩ := hx j hlt
      have hbw := hD b hDb
      have hB := HS.out.1
      have HV := Lib.hid ((RV.mono (fun b h => h) (fun x hx hlt => hB.block x hlt) hv).mono (fun b h => h) (fun x hx hlt => heap_alloc_old wr (.cells #[.int .i64 k', .int .u64 (u' 0), .int .u64 (u' 1), .int .u64 (u' 2), .int .u64 (u' 3), .slice p' n' c'] 27) hlt))
      have HD := Lib.hid fun x (hx : D x) => (by have h1 := hD x hx; have h2 := hB.size; simp; omega : x < (wr.alloc (.cells #[.int .i64 k', .int .u64 (u' 0), .int .u64 (u' 1), .int .u64 (u' 2), .int .u64 (u' 3), .slice p' n' c'] 27)).heap.size)
      have cc : ∀ i y, (nodeC k' u' (.slice p' n' c'))[i]? = some y → wr.cell? ⟨b, o + j * 6 + i, none⟩ = some y := fun i y hy => by
        rw [hB.cell (p := ⟨b, o + j * 6 + i, none⟩) hbw, ← hcell i y hy, show o + j * 6 + i = o + (6 * j + i) by omega]
      have d0 : wr.cell? ⟨b, o + j * 6, none⟩ = some (.int .i64 k') := cc 0 _ rfl
      have d1 : wr.cell? ⟨b, o + j * 6 + 1, none⟩ = some (.int .u64 (u' 0)) := cc 1 _ rfl
      have d2 : wr.cell? ⟨b, o + j * 6 + 2, none⟩ = some (.int .u64 (u' 1)) := cc 2 _ rfl
      have d3 : wr.cell? ⟨b, o + j * 6 + 3, none⟩ = some (.int .u64 (u' 2)) := cc 3 _ rfl
      have d4 : wr.cell? ⟨b, o + j * 6 + 4, none⟩ = some (.int .u64 (u' 3)) := cc 4 _ rfl
      have d5 : wr.cell? ⟨b, o + j * 6 + 5, none⟩ = some (.slice p' n' c') := cc 5 _ rfl
      have HT := Lib.hid (depL_take ps j hlt)
      have hIj := Lib.hid (hI.out j hlt)
      have HW := Lib.hid (HS.out.up ((Below.refl _ _).alloc (Nat.le_refl _) (.cells #[.int .i64 k', .int .u64 (u' 0), .int .u64 (u' 1), .int .u64 (u' 2), .int .u64 (u' 3), .slice p' n' c'] 27)))
      have hdj : dep ps[j] ≤ 1000 := by have := depL_get ps j hlt; omega
      generalize hd1 : dep ps[j] = d at *
      generalize hd2 : depL (ps.take j) = m at *
      clear hcell hv cc hx hd1 hd2 hB
      have hlt' : (j : Int) < (ps.length : Int) := by omega
      go_wp2_with fail
      refine (hIj.out _ _ HV.out HD.out).mono ?_
      rintro _ w5 ⟨rfl, hb⟩
      have H5 := Lib.hid (HW.out.up hb)
      clear hb
      go_wp2_with fail
      go_roundw
      case rel => exact ⟨j + 1, by omega, by go_num, by rw [HT.out]; exact vint5 (by first | omega | (split <;> omega)), H5.out⟩
      case measure => simp [intOf]; omega
    · obtain rfl : j = ps.length := by omega
      have hlt' : ¬ ((ps.length : Int) < (ps.length : Int)) := by omega
      have HB := Lib.hid HS.out.1
      rw [List.take_length]
      go_wp2
      go_ret
      exact ⟨ret_int (by omega), HB.out⟩
theorem depth_any {D : Nat → Prop} : ∀ (n : Nat) (t : RT) {v : Value} {w : World}, dep t ≤ n → n ≤ 1000 → (∀ b, D b → b < w.heap.size) → wid t ≤ 1000 → RV D w t v → Calls Tryd.prog 31 #[v] w fun e w' => e = .returned (.int .i64 (dep t : Nat)) ∧ Below w.heap.size w w'
  | 0, .mk k u ps, v, w, hn, _, _, _, h => by simp [dep] at hn
  | n + 1, .mk k u ps, v, w, hn, hn2, hD, hw, h => by
    have h1 : depL ps ≤ n := by simp only [dep] at hn; omega
    obtain ⟨hl, hw2⟩ := wid_mk hw
    refine depth_walk hD hl (by omega) h (Lib.hid fun i hi v' w' hv hD' => ?_)
    exact depth_any n ps[i] (by have := depL_get ps i hi; omega) (by omega) hD' (hw2 i hi) hv
end Go.Proofs.YtmjojahkbjlcdaaDoor
end
section
/- Package regs: the reader's small steps: what comes next. -/
namespace Go.Proofs.YtmjojahkbjlcdaaDoor
set_option linter.unusedSimpArgs false
set_option linter.unusedVariables false
set_option maxRecDepth 100000
open Go.RowKit

def wholeF (l : List UInt8) : Except (List UInt8) RT :=
  match chc (l.length + 1) l with
  | .error q => .error q
  | .ok (t, q) => match q with
    | [] => .ok t
    | c :: r => .error (c :: r)
def WholeP (rb : Nat) (s : ByteArray) (w : World) (r : Except (List UInt8) RT) (e : Ending) (w' : World) : Prop :=
  match r with
  | .error q => e = boom ∧ GK rb s q w w'
  | .ok t => (∃ v, e = .returned v ∧ RV (fun b => w.heap.size ≤ b ∧ b < w'.heap.size) w' t v) ∧ GK rb s [] w w'
set_option maxHeartbeats 4000000 in
theorem whole_e {rb : Nat} {s : ByteArray} {q t : List UInt8} {w : World} (h0 : GA rb s q w) (hC : CHO rb s q (.error t)) :
    Calls Tryd.prog 37 #[.pointer (some ⟨rb, 0, none⟩)] w fun e w' => e = boom ∧ GK rb s t w w' := by
  have HU := Lib.hid (GK.up h0 ((Below.refl _ _).alloc (Nat.le_refl _) (.cells (nodeC 0 u0 (.slice none 0 0)) 27)))
  have hz := zero27r
  clear h0
  go_enter Tryd.func37, Tryd.ntmps37
  go_wp2_with fail
  refine (hC.out _ HU.out.2).mono ?_
  rintro _ w5 ⟨rfl, hk⟩
  have H5 : Hid (GK rb s t w w5) := Lib.hid (HU.out.trans hk)
  clear hk
  unfold boom
  go_wp2
  exact ⟨rfl, rfl, H5.out⟩
set_option maxHeartbeats 4000000 in
theorem whole_n {rb : Nat} {s : ByteArray} {q r : List UInt8} {c : UInt8} {t : RT} {w : World} (hs : s.size ≤ 1000) (h0 : GA rb s q w) (hC : CHO rb s q (.ok (t, c :: r))) :
    Calls Tryd.prog 37 #[.pointer (some ⟨rb, 0, none⟩)] w fun e w' => e = boom ∧ GK rb s (c :: r) w w' := by
  have HU := Lib.hid (GK.up h0 ((Below.refl _ _).alloc (Nat.le_refl _) (.cells (nodeC 0 u0 (.slice none 0 0)) 27)))
  have hz := zero27l
  clear h0
  go_enter Tryd.func37, Tryd.ntmps37
  go_wp2_with fail
  refine (hC.out _ HU.out.2).mono ?_
  rintro _ w1 ⟨⟨v, rfl, hv⟩, hk⟩
  obtain ⟨k5, u5, p5, n5, c5, rfl⟩ := hv.form2
  have H1 : Hid (GK rb s (c :: r) w (w1.alloc (.cells #[.int .i64 k5, .int .u64 (u5 0), .int .u64 (u5 1), .int .u64 (u5 2), .int .u64 (u5 3), .slice p5 n5 c5] 27))) := Lib.hid ((HU.out.trans hk).trans (GK.up hk.2 ((Below.refl _ _).alloc (Nat.le_refl _) _)))
  have hlt := Lib.hid hk.2.1.lt
  have hsuf := Lib.hid hk.2.1
  clear hv hk HU
  go_wp2_with fail
  generalize w1.alloc (.cells #[.int .i64 k5, .int .u64 (u5 0), .int .u64 (u5 1), .int .u64 (u5 2), .int .u64 (u5 3), .slice p5 n5 c5] 27) = w2 at *
  have hin : ((s.size - (c :: r).length : Nat) : Int) < (s.size : Int) := by have := hlt.out; omega
  have hg := Lib.hid (giveUp_any rb (s.size - (c :: r).length) (s.size - (c :: r).length) s)
  have hG := Lib.hid H1.out.2.2
  have H1g := Lib.hid H1.out.gk
  generalize hnn : s.size - (c :: r).length = n at *
  have HNN := Lib.hid hnn
  clear hnn
  have c0 := hG.out.c0
  have c1 := hG.out.c1
  have z := hG.out.lt
  go_quiet (fail)
  have H2 := Lib.hid (H1g.out.trans (Gk.drewN hG.out nq))
  generalize w2.drewN nq = w3 at *
  have c0 := H2.out.2.c0
  have c1 := H2.out.2.c1
  have z := H2.out.2.lt
  go_wp2_with fail
  refine (hg.out _ H2.out.2).mono ?_
  rintro _ w4 ⟨rfl, h4⟩
  have H4 := Lib.hid (H2.out.trans h4)
  clear h4
  unfold boom
  go_wp2
  exact ⟨rfl, rfl, .of hsuf.out (by rw [HNN.out]; exact H4.out)⟩
set_option maxHeartbeats 4000000 in
theorem whole_o {rb : Nat} {s : ByteArray} {q : List UInt8} {t : RT} {w : World} (hs : s.size ≤ 1000) (h0 : GA rb s q w) (hC : CHO rb s q (.ok (t, []))) :
    Calls Tryd.prog 37 #[.pointer (some ⟨rb, 0, none⟩)] w (WholeP rb s w (.ok t)) := by
  have HU := Lib.hid (GK.up h0 ((Below.refl _ _).alloc (Nat.le_refl _) (.cells (nodeC 0 u0 (.slice none 0 0)) 27)))
  have HB2 := Lib.hid (heap_alloc_last w (.cells (nodeC 0 u0 (.slice none 0 0)) 27))
  have hsz : (w.alloc (.cells (nodeC 0 u0 (.slice none 0 0)) 27)).heap.size = w.heap.size + 1 := by simp
  have hrb := h0.2.lt
  have hne : w.heap.size ≠ rb := by omega
  have hz := zero27l
  clear h0
  go_enter Tryd.func37, Tryd.ntmps37
  go_wp2_with fail
  generalize hwA : w.alloc (.cells #[.int .i64 0, .int .u64 0, .int .u64 0, .int .u64 0, .int .u64 0, .slice none 0 0] 27) = wA
  have HU2 : Hid (GK rb s q w wA) := Lib.hid (by rw [← hwA]; exact HU.out)
  have HB22 : Hid (wA.heap[w.heap.size]? = some (.cells (nodeC 0 u0 (.slice none 0 0)) 27)) := Lib.hid (by rw [← hwA]; exact HB2.out)
  have hszA : wA.heap.size = w.heap.size + 1 := by rw [← hwA]; simp
  clear hwA HU HB2 hsz
  generalize hb2 : w.heap.size = b2 at *
  refine (hC.out _ HU2.out.2).mono ?_
  rintro _ w1 ⟨⟨v, rfl, hv⟩, hk⟩
  obtain ⟨k5, u5, p5, n5, c5, rfl⟩ := hv.form2
  have HV := Lib.hid (show RV (fun b => wA.heap.size ≤ b ∧ b < w1.heap.size) w1 t (.agg (nodeC k5 u5 (.slice p5 n5 c5))) from hv)
  have H1 : Hid (GK rb s [] wA (w1.alloc (.cells #[.int .i64 k5, .int .u64 (u5 0), .int .u64 (u5 1), .int .u64 (u5 2), .int .u64 (u5 3), .slice p5 n5 c5] 27))) := Lib.hid (hk.trans (GK.up hk.2 ((Below.refl _ _).alloc (Nat.le_refl _) _)))
  have hs1 := hk.1.size
  have HB3 := Lib.hid (heap_alloc_last w1 (.cells #[.int .i64 k5, .int .u64 (u5 0), .int .u64 (u5 1), .int .u64 (u5 2), .int .u64 (u5 3), .slice p5 n5 c5] 27))
  have HE := Lib.hid fun x (hx : x < w1.heap.size) => heap_alloc_old w1 (.cells #[.int .i64 k5, .int .u64 (u5 0), .int .u64 (u5 1), .int .u64 (u5 2), .int .u64 (u5 3), .slice p5 n5 c5] 27) hx
  have hsz2 : (w1.alloc (.cells #[.int .i64 k5, .int .u64 (u5 0), .int .u64 (u5 1), .int .u64 (u5 2), .int .u64 (u5 3), .slice p5 n5 c5] 27)).heap.size = w1.heap.size + 1 := by simp
  clear hv hk
  go_wp2_with fail
  generalize w1.alloc (.cells #[.int .i64 k5, .int .u64 (u5 0), .int .u64 (u5 1), .int .u64 (u5 2), .int .u64 (u5 3), .slice p5 n5 c5] 27) = w2 at *
  generalize hb3 : w1.heap.size = b3 at *
  have hG := Lib.hid H1.out.2.2
  have hin : decide (s.size - ([] : List UInt8).length < s.size) = false := by simp
  have hin2 : decide (((s.size - ([] : List UInt8).length : Nat) : Int) < (s.size : Int)) = false := by simp
  generalize hnn : s.size - ([] : List UInt8).length = n at *
  have HNN := Lib.hid hnn
  clear hnn
  have c0 := hG.out.c0
  have c1 := hG.out.c1
  have z := hG.out.lt
  go_quiet (fail)
  have H2 : Hid (GK rb s [] wA (w2.drewN nq)) := Lib.hid (H1.out.trans (GK.drewN H1.out.2 nq))
  have HX : Hid ((w2.drewN nq).heap[b3]? = some (.cells #[.int .i64 k5, .int .u64 (u5 0), .int .u64 (u5 1), .int .u64 (u5 2), .int .u64 (u5 3), .slice p5 n5 c5] 27)) := Lib.hid HB3.out
  have HE2 : Hid (∀ x, x < b3 → (w2.drewN nq).heap[x]? = w1.heap[x]?) := Lib.hid HE.out
  have hsz4 : (w2.drewN nq).heap.size = b3 + 1 := hsz2
  generalize w2.drewN nq = w3 at *
  have HY : Hid (w3.heap[b2]? = some (.cells (nodeC 0 u0 (.slice none 0 0)) 27)) := Lib.hid (by rw [H2.out.gk.old (by omega) hne, HB22.out])
  have HT : Hid (GK rb s [] w w3) := Lib.hid (HU2.out.trans H2.out)
  go_wp2_with (first | (refine wpList_load_row rfl 27 (.tmp 3) rfl b3 rfl 27 _ (0, 0) _ HX.out Tryd.underlying27 rfl size27r ?_) | (refine wpList_store_row rfl 27 (.tmp 2) (.tmp 22) rfl b2 (nodeC k5 u5 (.slice p5 n5 c5)) rfl rfl 27 _ HY.out size27r rfl (nodeC_one _ _ _ _ _) ?_))
  refine bodyPost_ret (v := .agg (nodeC k5 u5 (.slice p5 n5 c5))) (results_cell_row rfl _ _ b2 27 _ (0, 0) _ rfl (setRow_heap w3 b2 _ _ 27 (0, 0) HY.out) Tryd.underlying27 rfl size27r) rfl ⟨⟨_, rfl, ?_⟩, .of HT.out.2.1 (Gk.row HT.out.gk (by omega) hne)⟩
  refine HV.out.mono (fun x hx => ?_) (fun x hx hlt => ?_)
  · have h1 : (w3.setRow b2 (nodeC k5 u5 (.slice p5 n5 c5))).heap.size = w3.heap.size := by simp
    rw [h1]; omega
  · rw [setRow_other w3 b2 x _ (by omega)]; exact HE2.out x (by omega)
theorem whole_any {rb : Nat} {s : ByteArray} {q : List UInt8} {w : World} (hs : s.size ≤ 1000) (h : GA rb s q w) :
    Calls Tryd.prog 37 #[.pointer (some ⟨rb, 0, none⟩)] w (WholeP rb s w (wholeF q)) := by
  have hC : CHO rb s q (chc (q.length + 1) q) := Lib.hid fun w hg => choice_any hs (q.length + 1) q w (by omega) hg
  unfold wholeF
  cases hc : chc (q.length + 1) q with
  | error t => rw [hc] at hC; exact (whole_e h hC).mono fun e w' k => k
  | ok v =>
    obtain ⟨t, r⟩ := v
    rw [hc] at hC
    cases r with
    | nil => exact whole_o hs h hC
    | cons c r => exact (whole_n hs h hC).mono fun e w' k => k
end Go.Proofs.YtmjojahkbjlcdaaDoor
end
section
/- Package regs: the reader's small steps: what comes next. -/
namespace Go.Proofs.YtmjojahkbjlcdaaDoor
set_option linter.unusedSimpArgs false
set_option linter.unusedVariables false
set_option maxRecDepth 100000
open Go.RowKit

theorem act_eq {P : Program} {c : Code} {Q : Exit → Act → World → Prop} {a a' : Act} {w : World} (h : a = a') (hw : c.wp P Q a' w) : c.wp P Q a w := by subst h; exact hw
set_option maxHeartbeats 2000000 in
theorem close_ret (a b c d : Addr) (w : World) :
    CallsD Tryd.prog 36 #[.pointer (some a), .pointer (some b), .pointer (some c), .pointer (some d)] .returning w fun e u' w' => e = .returned (.tuple #[]) ∧ u' = .returning ∧ w' = w := by
  refine callsD_of_wpS Tryd.func36 rfl fun c₀ cs hu => ?_
  apply wpS_seq
  apply wpS_region
  simp [wpOpsS, go_sem, recoverD, hu, Tryd.ntmps36, Exit.thenS]
  refine wpS_of_wp ?_
  refine act_eq (a' := ⟨#[.pointer (some a), .pointer (some b), .pointer (some c), .pointer (some d), .nilIface, .nilIface, undef, undef, undef, undef, undef, undef, undef, undef, undef, undef], []⟩) (by rfl) ?_
  go_wp2
  all_goals simp_all [bodyPostS, results, Tryd.results36]
  all_goals (cases c₀; simp_all)
theorem eql_boom (w : World) : (binOp .eql 20 (.iface 30 (.int .i64 50)) (.iface 30 (.int .i64 50))).run Tryd.prog w = .ok (.bool true) w := by kernel_rfl
set_option maxHeartbeats 2000000 in
theorem close_boom {rb n b1 b2 b3 : Nat} {s : ByteArray} {r1 : Array Value} {x2 x3 : Int} (older : List PanicEntry) (w : World) (hG : Gat rb s n w) (h1 : w.heap[b1]? = some (.cells r1 27)) (hr1 : r1.size = 6) (h2 : w.heap[b2]? = some (.cells #[.int .i64 x2] 3)) (h3 : w.heap[b3]? = some (.cells #[.int .i64 x3] 30)) (n1 : b1 ≠ b2) (n2 : b1 ≠ b3) (n3 : b2 ≠ b3) :
    CallsD Tryd.prog 36 #[.pointer (some ⟨rb, 0, none⟩), .pointer (some ⟨b1, 0, none⟩), .pointer (some ⟨b2, 0, none⟩), .pointer (some ⟨b3, 0, none⟩)] (.panicking ({ v := .iface 30 (.int .i64 50), recovered := false } :: older)) w fun e u' w' =>
      e = .returned (.tuple #[]) ∧ u' = .panicking ({ v := .iface 30 (.int .i64 50), recovered := true } :: older) ∧ w' = (((w.setRow b1 (nodeC 0 u0 (.slice none 0 0))).setCell ⟨b2, 0, none⟩ (.int .i64 n)).setCell ⟨b3, 0, none⟩ (.int .i64 50)) := by
  have c1 := hG.c1
  have z := hG.lt
  have heq := eql_boom
  have hb2 : (w.setRow b1 (nodeC 0 u0 (.slice none 0 0))).heap[b2]? = some (.cells #[.int .i64 x2] 3) := (setRow_other w b1 b2 _ (fun e => n1 e.symm)).trans h2
  have g2 := cell_of_row _ b2 0 _ 3 (0, 0) hb2
  have f2 := frozen_of_row _ b2 0 _ 3 hb2
  have hb3 : ((w.setRow b1 (nodeC 0 u0 (.slice none 0 0))).setCell ⟨b2, 0, none⟩ (.int .i64 n)).heap[b3]? = some (.cells #[.int .i64 x3] 30) := (heap_setCell_other _ ⟨b2, 0, none⟩ b3 _ (fun e => n3 e.symm)).trans ((setRow_other w b1 b3 _ (fun e => n2 e.symm)).trans h3)
  have g3 := cell_of_row _ b3 0 _ 30 (0, 0) hb3
  have f3 := frozen_of_row _ b3 0 _ 30 hb3
  simp only [List.getElem?_toArray, List.getElem?_cons_zero] at g2 g3
  clear hb2 hb3 h2 h3 hG
  refine callsD_of_wpS Tryd.func36 rfl fun c₀ cs hu => ?_
  apply wpS_seq
  apply wpS_region
  simp [wpOpsS, go_sem, recoverD, hu, Tryd.ntmps36, Exit.thenS]
  refine wpS_of_wp ?_
  refine act_eq (a' := ⟨#[.pointer (some ⟨rb, 0, none⟩), .pointer (some ⟨b1, 0, none⟩), .pointer (some ⟨b2, 0, none⟩), .pointer (some ⟨b3, 0, none⟩), .iface 30 (.int .i64 50), .iface 30 (.int .i64 50), undef, undef, undef, undef, undef, undef, undef, undef, undef, undef], []⟩) (by rfl) ?_
  go_wp2_with (refine wpList_store_row rfl 27 (.tmp 1) (.tmp 13) rfl b1 (nodeC 0 u0 (.slice none 0 0)) rfl rfl 27 _ h1 size27r (by rw [hr1]; rfl) (nodeC_one _ _ _ _ _) ?_)
  all_goals simp_all [bodyPostS, results, Tryd.results36]
end Go.Proofs.YtmjojahkbjlcdaaDoor
end
section
/- Package regs: the reader's small steps: what comes next. -/
namespace Go.Proofs.YtmjojahkbjlcdaaDoor
set_option linter.unusedSimpArgs false
set_option linter.unusedVariables false
set_option maxRecDepth 100000
open Go.RowKit

def ret3 (v : Value) (n e : Int) : Ending := .returned (.tuple #[v, .int .i64 n, .int .i64 e])
def zeroR : Value := .agg (nodeC 0 u0 (.slice none 0 0))
def lit0 : Array Value := #[.int .i64 0, .int .u64 0, .int .u64 0, .int .u64 0, .int .u64 0, .slice none 0 0]
theorem results_parse {tmps : Array Value} {w : World} {b1 b2 b3 : Nat} {k : Int} {u : Nat → Int} {p : Option Addr} {n c : Nat} {x y : Int} (h1 : tmps.getD 2 undef = .pointer (some ⟨b1, 0, none⟩)) (h2 : tmps.getD 3 undef = .pointer (some ⟨b2, 0, none⟩)) (h3 : tmps.getD 4 undef = .pointer (some ⟨b3, 0, none⟩))
    (o1 : w.heap[b1]? = some (.cells (nodeC k u (.slice p n c)) 27)) (c2 : w.cell? ⟨b2, 0, none⟩ = some (.int .i64 x)) (c3 : w.cell? ⟨b3, 0, none⟩ = some (.int .i64 y)) :
    (results Tryd.f21 tmps).run Tryd.prog w = .ok (.tuple #[.agg (nodeC k u (.slice p n c)), .int .i64 x, .int .i64 y]) w := by
  have g1 : tmps[2]?.getD undef = .pointer (some ⟨b1, 0, none⟩) := by simpa using h1
  have g2 : tmps[3]?.getD undef = .pointer (some ⟨b2, 0, none⟩) := by simpa using h2
  have g3 : tmps[4]?.getD undef = .pointer (some ⟨b3, 0, none⟩) := by simpa using h3
  have d0 : w.cell? ⟨b1, 0, none⟩ = some (.int .i64 k) := cell_of_row w b1 0 _ 27 (0, 0) o1
  have d1 : w.cell? ⟨b1, 1, none⟩ = some (.int .u64 (u 0)) := cell_of_row w b1 1 _ 27 (0, 0) o1
  have d2 : w.cell? ⟨b1, 2, none⟩ = some (.int .u64 (u 1)) := cell_of_row w b1 2 _ 27 (0, 0) o1
  have d3 : w.cell? ⟨b1, 3, none⟩ = some (.int .u64 (u 2)) := cell_of_row w b1 3 _ 27 (0, 0) o1
  have d4 : w.cell? ⟨b1, 4, none⟩ = some (.int .u64 (u 3)) := cell_of_row w b1 4 _ 27 (0, 0) o1
  have d5 : w.cell? ⟨b1, 5, none⟩ = some (.slice p n c) := cell_of_row w b1 5 _ 27 (0, 0) o1
  unfold nodeC
  simp [results, Tryd.results21, asAddr, g1, g2, g3, go_sem, d0, d1, d2, d3, d4, d5, c2, c3]
set_option maxHeartbeats 4000000 in
theorem parse_boom {s : ByteArray} {q : List UInt8} (hs : s.size ≤ 256) (w : World) (hW : Hid (∀ rb w, GA rb s s.data.toList w → Calls Tryd.prog 37 #[.pointer (some ⟨rb, 0, none⟩)] w fun e w' => e = boom ∧ GK rb s q w w')) :
    Calls Tryd.prog 21 #[.string s] w fun e w' => e = ret3 zeroR (s.size - q.length : Nat) 50 ∧ Below w.heap.size w w' := by
  have hmf : ∀ (fn : Fn) (first cap : Array Value) (w : World), (Instr.makeFunc fn first cap).run Tryd.prog w = .ok (.func fn first cap) w := fun _ _ _ _ => rfl
  have hz := zero27l
  have hs2 : ¬ 256 < (s.size : Int) := by omega
  have S0 := Lib.hid (((((Sb.start w).alloc (.cells lit0 27)).alloc (.cells #[.int .i64 0] 3)).alloc (.cells #[.int .i64 0] 30)).alloc (.cells #[.string s, .int .i64 0] 50))
  have z1 : (w.alloc (.cells lit0 27)).heap.size = w.heap.size + 1 := by simp
  have z2 : ((w.alloc (.cells lit0 27)).alloc (.cells #[.int .i64 0] 3)).heap.size = w.heap.size + 1 + 1 := by simp
  have z3 : (((w.alloc (.cells lit0 27)).alloc (.cells #[.int .i64 0] 3)).alloc (.cells #[.int .i64 0] 30)).heap.size = w.heap.size + 1 + 1 + 1 := by simp
  rw [z1, z2, z3] at S0
  clear z1 z2 z3
  have hA0 : Hid (GA (w.heap.size + 1 + 1 + 1) s s.data.toList ((((w.alloc (.cells lit0 27)).alloc (.cells #[.int .i64 0] 3)).alloc (.cells #[.int .i64 0] 30)).alloc (.cells #[.string s, .int .i64 0] 50))) := Lib.hid ⟨Suf.whole s, by
    have h : s.size - s.data.toList.length = 0 := by simp
    unfold Gat; rw [h]; exact S0.out.heap⟩
  go_enter_defers Tryd.func21, Tryd.ntmps21
  go_wp2_with fail
  have hWA := Lib.hid (hW.out _ _ hA0.out)
  have SB := Lib.hid S0.out.2
  have S1 := Lib.hid S0.out.1
  clear S0 hA0
  unfold lit0 at hWA S1 SB
  generalize ((((w.alloc (.cells #[.int .i64 0, .int .u64 0, .int .u64 0, .int .u64 0, .int .u64 0, .slice none 0 0] 27)).alloc (.cells #[.int .i64 0] 3)).alloc (.cells #[.int .i64 0] 30)).alloc (.cells #[.string s, .int .i64 0] 50)) = wA at *
  refine hWA.out.mono ?_
  rintro _ w1 ⟨rfl, hk⟩
  have HK := Lib.hid hk
  clear hk
  unfold boom
  have hb0 := HK.out.2.2
  have e1 := (SB.out (w.heap.size, .cells #[.int .i64 0, .int .u64 0, .int .u64 0, .int .u64 0, .int .u64 0, .slice none 0 0] 27) (by simp)).2
  have e2 := (SB.out (w.heap.size + 1, .cells #[.int .i64 0] 3) (by simp)).2
  have e3 := (SB.out (w.heap.size + 1 + 1, .cells #[.int .i64 0] 30) (by simp)).2
  have h1 := Lib.hid ((HK.out.gk.old (Array.getElem?_eq_some_iff.1 e1).1 (by omega)).trans e1)
  have h2 := Lib.hid ((HK.out.gk.old (Array.getElem?_eq_some_iff.1 e2).1 (by omega)).trans e2)
  have h3 := Lib.hid ((HK.out.gk.old (Array.getElem?_eq_some_iff.1 e3).1 (by omega)).trans e3)
  clear e1 e2 e3 hb0
  go_wp2
  refine leaves_cons (f := 36) (args := #[.pointer (some ⟨w.heap.size + 1 + 1 + 1, 0, none⟩), .pointer (some ⟨w.heap.size, 0, none⟩), .pointer (some ⟨w.heap.size + 1, 0, none⟩), .pointer (some ⟨w.heap.size + 1 + 1, 0, none⟩)]) (by simp) (by simp [go_sem]) ?_
  refine (close_boom [] w1 HK.out.2.2 h1.out rfl h2.out h3.out (by omega) (by omega) (by omega)).mono ?_
  rintro e u' w'' ⟨rfl, rfl, rfl⟩
  have q1 := setRow_heap w1 w.heap.size _ (nodeC 0 u0 (.slice none 0 0)) 27 (0, 0) h1.out
  have q2 := (setRow_other w1 w.heap.size (w.heap.size + 1) (nodeC 0 u0 (.slice none 0 0)) (by omega)).trans h2.out
  have q3 := (setRow_other w1 w.heap.size (w.heap.size + 1 + 1) (nodeC 0 u0 (.slice none 0 0)) (by omega)).trans h3.out
  have hB1 : Below w.heap.size w (w1.setRow w.heap.size (nodeC 0 u0 (.slice none 0 0))) := by
    have h9 := HK.out.1
    refine ⟨h9.os.trans S1.out.os, h9.tape.trans S1.out.tape, h9.output.trans S1.out.output, by have h8 := h9.size; have h7 := S1.out.size; simpa using Nat.le_trans h7 h8, fun j hj => ?_⟩
    rw [setRow_other w1 w.heap.size j _ (by omega), h9.block j (Nat.lt_of_lt_of_le hj S1.out.size) (fun e => by cases e; omega), S1.out.block j hj]
  generalize w1.setRow w.heap.size (nodeC 0 u0 (.slice none 0 0)) = w2 at *
  have p1 := (heap_setCell_other w2 ⟨w.heap.size + 1, 0, none⟩ w.heap.size (.int .i64 ((s.size - q.length : Nat) : Int)) (show w.heap.size ≠ w.heap.size + 1 by omega)).trans q1
  have p2 := heap_setCell_same w2 (w.heap.size + 1) 0 _ 3 (.int .i64 ((s.size - q.length : Nat) : Int)) q2
  have p3 := (heap_setCell_other w2 ⟨w.heap.size + 1, 0, none⟩ (w.heap.size + 1 + 1) (.int .i64 ((s.size - q.length : Nat) : Int)) (show w.heap.size + 1 + 1 ≠ w.heap.size + 1 by omega)).trans q3
  have hB2 := hB1.setCell (p := ⟨w.heap.size + 1, 0, none⟩) (by simp) (.int .i64 ((s.size - q.length : Nat) : Int))
  generalize w2.setCell ⟨w.heap.size + 1, 0, none⟩ (.int .i64 ((s.size - q.length : Nat) : Int)) = w3 at *
  have o1 := (heap_setCell_other w3 ⟨w.heap.size + 1 + 1, 0, none⟩ w.heap.size (.int .i64 50) (show w.heap.size ≠ w.heap.size + 1 + 1 by omega)).trans p1
  have o2 := (heap_setCell_other w3 ⟨w.heap.size + 1 + 1, 0, none⟩ (w.heap.size + 1) (.int .i64 50) (show w.heap.size + 1 ≠ w.heap.size + 1 + 1 by omega)).trans p2
  have o3 := heap_setCell_same w3 (w.heap.size + 1 + 1) 0 _ 30 (.int .i64 50) p3
  have hB3 := hB2.setCell (p := ⟨w.heap.size + 1 + 1, 0, none⟩) (by simp; omega) (.int .i64 50)
  generalize w3.setCell ⟨w.heap.size + 1 + 1, 0, none⟩ (.int .i64 50) = w4 at *
  have r0 := run_loadVar_row w4 w.heap.size 27 27 _ (0, 0) _ o1 Tryd.underlying27 rfl size27r
  have r2 := cell_of_row w4 (w.heap.size + 1) 0 _ 3 (0, 0) o2
  have r3 := cell_of_row w4 (w.heap.size + 1 + 1) 0 _ 30 (0, 0) o3
  refine ⟨.tuple #[zeroR, .int .i64 ((s.size - q.length : Nat) : Int), .int .i64 50], ?_, rfl, hB3⟩
  exact results_parse rfl rfl rfl o1 r2 r3
end Go.Proofs.YtmjojahkbjlcdaaDoor
end
