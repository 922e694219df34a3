/- Package nfa. -/
import Derived.Test.YthglciccejholaaDoorProg
import Derived.Test.YthglciccejholaaDoorV5
import Derived.WalkKit
import Derived.WalkLawsBesides
import Derived.WalkSpells
import Derived.Outline
import Derived.Lib.Walk
import Derived.Lib.Hide
import Derived.Lib.Slices
import Derived.Lib.Strings
import Derived.RegionTactic
import Derived.LoopTactic
import Derived.Below
import Derived.IntWalk
import Derived.Deep.QuietTactic
import Derived.BigQuiet
import Derived.Deep.MidRow
import Derived.Maps.AppendAt
import Derived.Laws.Rows
import Derived.Laws.Tables
import Derived.Deep.WholeRow
import Derived.Deep.Cut
import Derived.Deep.CutRange
import Derived.Lib.SliceRun
import Derived.Laws.MakeOwn
import Derived.Deep.RegionLaw
import Derived.Deep.RegionLawGrows
namespace Go.Proofs.YthglciccejholaaDoor
set_option linter.unusedSimpArgs false
set_option linter.unusedVariables false
set_option maxRecDepth 100000
open Go.RowKit
/- Package regs, taken over: Size and Check of a pattern. -/
/-- A pattern, as the memory has it. -/
inductive RT where
  | mk (k : Int) (u : Nat → Int) (ps : List RT)
def u0 : Nat → Int := fun _ => 0
/-- The pattern t lies in the world as the value v; its parts lie in blocks of D. -/
inductive RV (D : Nat → Prop) (w : World) : RT → Value → Prop where
  | leaf (k : Int) (u : Nat → Int) (p : Option Addr) (c : Nat) : RV D w (.mk k u []) (.agg (nodeC k u (.slice p 0 c)))
  | node (k : Int) (u : Nat → Int) (ps : List RT) (b o c : Nat) (xs : Nat → Array Value) (hD : D b) (hn : ps ≠ []) (hx : ∀ i (h : i < ps.length), RV D w ps[i] (.agg (xs i)))
      (hc : ∀ i, i < ps.length → ∀ j, j < 6 → ∃ y, (xs i)[j]? = some y ∧ w.cell? ⟨b, o + (6 * i + j), none⟩ = some y) : RV D w (.mk k u ps) (.agg (nodeC k u (.slice (some ⟨b, o, none⟩) ps.length c)))
theorem RV.mono {D E : Nat → Prop} {w w' : World} (hE : ∀ b, D b → E b) (hw : ∀ b, D b → b < w.heap.size → w'.heap[b]? = w.heap[b]?) {t : RT} {v : Value} (h : RV D w t v) : RV E w' t v := by
  induction h with
  | leaf k u p c => exact .leaf k u p c
  | node k u ps b o c xs hD hn hx hc ih =>
    refine .node k u ps b o c xs (hE b hD) hn ih (fun i hi j hj => ?_)
    obtain ⟨y, h1, h2⟩ := hc i hi j hj
    refine ⟨y, h1, ?_⟩
    have hb := block_lt_of_cell h2
    rw [← h2]
    unfold World.cell?
    simp only [hw b hD hb]
theorem RV.form {D : Nat → Prop} {w : World} {t : RT} {v : Value} (h : RV D w t v) : ∃ k u p n c, v = .agg (nodeC k u (.slice p n c)) := by
  cases h with
  | leaf k u p c => exact ⟨_, _, _, _, _, rfl⟩
  | node k u ps b o c xs hD hn hx hc => exact ⟨_, _, _, _, _, rfl⟩
theorem infoR : (Tryd.prog.info? 27).map (fun i => (i.zero, i.size)) = some (some (.agg (nodeC 0 u0 (.slice none 0 0))), 6) := by kernel_rfl
theorem zero27r (w : World) : (zeroValue 27).run Tryd.prog w = .ok (.agg (nodeC 0 u0 (.slice none 0 0))) w := (zero_of_info infoR).1 w
theorem RV.form2 {D : Nat → Prop} {w : World} {t : RT} {v : Value} (h : RV D w t v) : ∃ (k : Int) (u : Nat → Int) (p : Option Addr) (n c : Nat), v = .agg #[.int .i64 k, .int .u64 (u 0), .int .u64 (u 1), .int .u64 (u 2), .int .u64 (u 3), .slice p n c] := h.form
mutual
def dep : RT → Nat
  | .mk _ _ ps => depL ps + 1
def depL : List RT → Nat
  | [] => 0
  | t :: ts => max (dep t) (depL ts)
end
theorem depL_get : ∀ (ts : List RT) (i : Nat) (h : i < ts.length), dep ts[i] ≤ depL ts
  | t :: ts, 0, h => by show dep t ≤ max (dep t) (depL ts); omega
  | t :: ts, i + 1, h => by
    have := depL_get ts i (by simpa using h)
    show dep (ts[i]'(by simpa using h)) ≤ max (dep t) (depL ts); omega
theorem depL_snoc : ∀ (ts : List RT) (t : RT), depL (ts ++ [t]) = max (depL ts) (dep t)
  | [], t => by show max (dep t) (depL []) = max (depL []) (dep t); simp [depL]
  | a :: ts, t => by
    have := depL_snoc ts t
    show max (dep a) (depL (ts ++ [t])) = max (max (dep a) (depL ts)) (dep t)
    rw [this]; omega
theorem depL_take (ts : List RT) (i : Nat) (h : i < ts.length) : depL (ts.take (i + 1)) = max (depL (ts.take i)) (dep ts[i]) := by
  rw [List.take_succ_eq_append_getElem h, depL_snoc]
/-- What lies in a part. -/
theorem RV.parts {D : Nat → Prop} {w : World} {k : Int} {u : Nat → Int} {ps : List RT} {v : Value} (h : RV D w (.mk k u ps) v) : ∃ p c, v = .agg #[.int .i64 k, .int .u64 (u 0), .int .u64 (u 1), .int .u64 (u 2), .int .u64 (u 3), .slice p ps.length c] ∧
    (ps ≠ [] → ∃ b o, p = some ⟨b, o, none⟩ ∧ D b ∧ ∀ i (hi : i < ps.length), ∃ k' u' p' n' c', RV D w ps[i] (.agg #[.int .i64 k', .int .u64 (u' 0), .int .u64 (u' 1), .int .u64 (u' 2), .int .u64 (u' 3), .slice p' n' c']) ∧
      (∀ j (y : Value), (nodeC k' u' (.slice p' n' c'))[j]? = some y → w.cell? ⟨b, o + (6 * i + j), none⟩ = some y)) := by
  cases h with
  | leaf k u p c => exact ⟨p, c, rfl, fun h => absurd rfl h⟩
  | node k u ps b o c xs hD hn hx hc =>
    refine ⟨_, c, rfl, fun _ => ⟨b, o, rfl, hD, fun i hi => ?_⟩⟩
    obtain ⟨k', u', p', n', c', hf⟩ := (hx i hi).form
    have hxs : xs i = nodeC k' u' (.slice p' n' c') := by injection hf
    refine ⟨k', u', p', n', c', by have h7 := hx i hi; rw [hxs] at h7; exact h7, fun j y hy => ?_⟩
    have hj : j < 6 := (Array.getElem?_eq_some_iff.1 hy).1
    obtain ⟨y', h5, h6⟩ := hc i hi j hj
    rw [hxs, hy] at h5
    cases h5
    exact h6
theorem zero27l (w : World) : (zeroValue 27).run Tryd.prog w = .ok (.agg #[.int .i64 0, .int .u64 0, .int .u64 0, .int .u64 0, .int .u64 0, .slice none 0 0]) w := zero27r w
theorem vint5 {k : IntKind} {a b : Int} (h : a = b) : Value.int k a = .int k b := by rw [h]
theorem ret_int {k : IntKind} {a b : Int} (h : a = b) : Ending.returned (.int k a) = .returned (.int k b) := by rw [h]
mutual
def wid : RT → Nat
  | .mk _ _ ps => max ps.length (widL ps)
def widL : List RT → Nat
  | [] => 0
  | t :: ts => max (wid t) (widL ts)
end
theorem widL_get : ∀ (ts : List RT) (i : Nat) (h : i < ts.length), wid ts[i] ≤ widL ts
  | t :: ts, 0, h => by show wid t ≤ max (wid t) (widL ts); omega
  | t :: ts, i + 1, h => by
    have := widL_get ts i (by simpa using h)
    show wid (ts[i]'(by simpa using h)) ≤ max (wid t) (widL ts); omega
theorem wid_mk {k : Int} {u : Nat → Int} {ps : List RT} {n : Nat} (h : wid (.mk k u ps) ≤ n) : ps.length ≤ n ∧ ∀ i (hi : i < ps.length), wid ps[i] ≤ n := by
  have h1 : max ps.length (widL ps) ≤ n := h
  exact ⟨by omega, fun i hi => by have := widL_get ps i hi; omega⟩
set_option maxHeartbeats 4000000 in
theorem depth_walk {D : Nat → Prop} {k : Int} {u : Nat → Int} {ps : List RT} {v : Value} {w : World} (hD : ∀ b, D b → b < w.heap.size) (hl : ps.length ≤ 1000) (hdd : depL ps ≤ 1000) (h : RV D w (.mk k u ps) v)
    (hI : Hid (∀ i (hi : i < ps.length) v w, RV D w ps[i] v → (∀ b, D b → b < w.heap.size) → Calls Tryd.prog 81 #[v] w fun e w' => e = .returned (.int .i64 (dep ps[i] : Nat)) ∧ Below w.heap.size w w')) :
    Calls Tryd.prog 81 #[v] w fun e w' => e = .returned (.int .i64 ((depL ps + 1 : Nat) : Nat)) ∧ Below w.heap.size w w' := by
  obtain ⟨p, c, rfl, hp⟩ := h.parts
  have HP := Lib.hid hp
  have hz := zero27l
  clear h hp
  have S0 := Lib.hid ((Sb.start w).alloc (.cells #[.int .i64 k, .int .u64 (u 0), .int .u64 (u 1), .int .u64 (u 2), .int .u64 (u 3), .slice p ps.length c] 27))
  go_enter Tryd.func81, Tryd.ntmps81
  go_wp2
  go_loopw [3, 9] (fun m i wr => ∃ j : Nat, j ≤ ps.length ∧ i = .int .i64 j ∧ m = .int .i64 (depL (ps.take j) : Nat) ∧ Sb w wr [(w.heap.size, .cells #[.int .i64 k, .int .u64 (u 0), .int .u64 (u 1), .int .u64 (u 2), .int .u64 (u 3), .slice p ps.length c] 27)]) (fun _ i _ => ps.length - (intOf i).toNat)
  case atStart => exact ⟨0, by omega, rfl, rfl, S0.out⟩
  case round =>
    obtain ⟨j, hj, rfl, rfl, hS⟩ := hrel
    have HS := Lib.hid hS
    clear hS S0
    by_cases hlt : j < ps.length
    · have hne : ps ≠ [] := by intro e; subst e; simp at hlt
      obtain ⟨b, o, rfl, hDb, hx⟩ := HP.out hne
      obtain ⟨k', u', p', n', c', hv, hcell⟩ := hx j hlt
      have hbw := hD b hDb
      have hB := HS.out.1
      have HV := Lib.hid ((RV.mono (fun b h => h) (fun x hx hlt => hB.block x hlt) hv).mono (fun b h => h) (fun x hx hlt => heap_alloc_old wr (.cells #[.int .i64 k', .int .u64 (u' 0), .int .u64 (u' 1), .int .u64 (u' 2), .int .u64 (u' 3), .slice p' n' c'] 27) hlt))
      have HD := Lib.hid fun x (hx : D x) => (by have h1 := hD x hx; have h2 := hB.size; simp; omega : x < (wr.alloc (.cells #[.int .i64 k', .int .u64 (u' 0), .int .u64 (u' 1), .int .u64 (u' 2), .int .u64 (u' 3), .slice p' n' c'] 27)).heap.size)
      have cc : ∀ i y, (nodeC k' u' (.slice p' n' c'))[i]? = some y → wr.cell? ⟨b, o + j * 6 + i, none⟩ = some y := fun i y hy => by
        rw [hB.cell (p := ⟨b, o + j * 6 + i, none⟩) hbw, ← hcell i y hy, show o + j * 6 + i = o + (6 * j + i) by omega]
      have d0 : wr.cell? ⟨b, o + j * 6, none⟩ = some (.int .i64 k') := cc 0 _ rfl
      have d1 : wr.cell? ⟨b, o + j * 6 + 1, none⟩ = some (.int .u64 (u' 0)) := cc 1 _ rfl
      have d2 : wr.cell? ⟨b, o + j * 6 + 2, none⟩ = some (.int .u64 (u' 1)) := cc 2 _ rfl
      have d3 : wr.cell? ⟨b, o + j * 6 + 3, none⟩ = some (.int .u64 (u' 2)) := cc 3 _ rfl
      have d4 : wr.cell? ⟨b, o + j * 6 + 4, none⟩ = some (.int .u64 (u' 3)) := cc 4 _ rfl
      have d5 : wr.cell? ⟨b, o + j * 6 + 5, none⟩ = some (.slice p' n' c') := cc 5 _ rfl
      have HT := Lib.hid (depL_take ps j hlt)
      have hIj := Lib.hid (hI.out j hlt)
      have HW := Lib.hid (HS.out.up ((Below.refl _ _).alloc (Nat.le_refl _) (.cells #[.int .i64 k', .int .u64 (u' 0), .int .u64 (u' 1), .int .u64 (u' 2), .int .u64 (u' 3), .slice p' n' c'] 27)))
      have hdj : dep ps[j] ≤ 1000 := by have := depL_get ps j hlt; omega
      generalize hd1 : dep ps[j] = d at *
      generalize hd2 : depL (ps.take j) = m at *
      clear hcell hv cc hx hd1 hd2 hB
      have hlt' : (j : Int) < (ps.length : Int) := by omega
      go_wp2_with fail
      refine (hIj.out _ _ HV.out HD.out).mono ?_
      rintro _ w5 ⟨rfl, hb⟩
      have H5 := Lib.hid (HW.out.up hb)
      clear hb
      go_wp2_with fail
      go_roundw
      case rel => exact ⟨j + 1, by omega, by go_num, by rw [HT.out]; exact vint5 (by first | omega | (split <;> omega)), H5.out⟩
      case measure => simp [intOf]; omega
    · obtain rfl : j = ps.length := by omega
      have hlt' : ¬ ((ps.length : Int) < (ps.length : Int)) := by omega
      have HB := Lib.hid HS.out.1
      rw [List.take_length]
      go_wp2
      go_ret
      exact ⟨ret_int (by omega), HB.out⟩
theorem depth_any {D : Nat → Prop} : ∀ (n : Nat) (t : RT) {v : Value} {w : World}, dep t ≤ n → n ≤ 1000 → (∀ b, D b → b < w.heap.size) → wid t ≤ 1000 → RV D w t v → Calls Tryd.prog 81 #[v] w fun e w' => e = .returned (.int .i64 (dep t : Nat)) ∧ Below w.heap.size w w'
  | 0, .mk k u ps, v, w, hn, _, _, _, h => by simp [dep] at hn
  | n + 1, .mk k u ps, v, w, hn, hn2, hD, hw, h => by
    have h1 : depL ps ≤ n := by simp only [dep] at hn; omega
    obtain ⟨hl, hw2⟩ := wid_mk hw
    refine depth_walk hD hl (by omega) h (Lib.hid fun i hi v' w' hv hD' => ?_)
    exact depth_any n ps[i] (by have := depL_get ps i hi; omega) (by omega) hD' (hw2 i hi) hv
mutual
def sz : RT → Nat
  | .mk _ _ ps => szL ps + 1
def szL : List RT → Nat
  | [] => 0
  | t :: ts => sz t + szL ts
end
theorem sz_pos (t : RT) : 1 ≤ sz t := by cases t; simp [sz]
theorem szL_app : ∀ (a b : List RT), szL (a ++ b) = szL a + szL b
  | [], b => by simp [szL]
  | t :: a, b => by have := szL_app a b; simp only [List.cons_append, szL]; omega
theorem len_szL : ∀ (ts : List RT), ts.length ≤ szL ts
  | [] => by simp [szL]
  | t :: ts => by have := len_szL ts; have := sz_pos t; simp only [List.length_cons, szL]; omega
mutual
theorem dep_sz : ∀ (t : RT), dep t ≤ sz t
  | .mk k u ps => by have := depL_sz ps; simp only [dep, sz]; omega
theorem depL_sz : ∀ (ts : List RT), depL ts ≤ szL ts
  | [] => by simp [depL, szL]
  | t :: ts => by have := dep_sz t; have := depL_sz ts; simp only [depL, szL]; omega
end
mutual
theorem wid_sz : ∀ (t : RT), wid t ≤ sz t
  | .mk k u ps => by have := widL_sz ps; have := len_szL ps; simp only [wid, sz]; omega
theorem widL_sz : ∀ (ts : List RT), widL ts ≤ szL ts
  | [] => by simp [widL, szL]
  | t :: ts => by have := wid_sz t; have := widL_sz ts; simp only [widL, szL]; omega
end

mutual
/-- How many patterns there are, behind n: it stops where there are too many. -/
def cnt : Nat → RT → Nat
  | n, .mk _ _ ps => cntL (n + 1) ps
def cntL : Nat → List RT → Nat
  | n, [] => n
  | n, t :: ts => if 512 < n then n else cntL (cnt n t) ts
end
mutual
theorem cnt_eq : ∀ (n : Nat) (t : RT), n ≤ 512 → cnt n t = min (n + sz t) 513
  | n, .mk k u ps, h => by
    have := cntL_eq (n + 1) ps (by omega)
    simp only [cnt, sz]; omega
theorem cntL_eq : ∀ (n : Nat) (ts : List RT), n ≤ 513 → cntL n ts = min (n + szL ts) 513
  | n, [], h => by simp only [cntL, szL]; omega
  | n, t :: ts, h => by
    rw [cntL]
    by_cases hn : 512 < n
    · rw [if_pos hn]; have := sz_pos t; simp only [szL]; omega
    · rw [if_neg hn]
      have h1 := cnt_eq n t (by omega)
      have h2 := cntL_eq (cnt n t) ts (by omega)
      rw [h2, h1]
      simp only [szL]; omega
end
theorem cntL_stop {n : Nat} (ts : List RT) (h : 512 < n) : cntL n ts = n := by
  cases ts with
  | nil => rfl
  | cons t ts => rw [cntL, if_pos h]
theorem cntL_drop {n : Nat} {ts : List RT} {j : Nat} (h : j < ts.length) (hn : ¬ 512 < n) : cntL n (ts.drop j) = cntL (cnt n ts[j]) (ts.drop (j + 1)) := by
  rw [List.drop_eq_getElem_cons h, cntL, if_neg hn]
set_option maxHeartbeats 4000000 in
theorem counted_walk {D : Nat → Prop} {k : Int} {u : Nat → Int} {ps : List RT} {v : Value} {w : World} (n : Nat) (hn : n ≤ 512) (hD : ∀ b, D b → b < w.heap.size) (hl : ps.length ≤ 9223372036854775806) (h : RV D w (.mk k u ps) v)
    (hI : Hid (∀ i (hi : i < ps.length) m v w, m ≤ 512 → RV D w ps[i] v → (∀ b, D b → b < w.heap.size) → Calls Tryd.prog 107 #[.int .i64 (m : Nat), v] w fun e w' => e = .returned (.int .i64 (cnt m ps[i] : Nat)) ∧ Below w.heap.size w w')) :
    Calls Tryd.prog 107 #[.int .i64 n, v] w fun e w' => e = .returned (.int .i64 (cntL (n + 1) ps : Nat)) ∧ Below w.heap.size w w' := by
  obtain ⟨p, c, rfl, hp⟩ := h.parts
  have HP := Lib.hid hp
  have hz := zero27l
  clear h hp
  have S0 := Lib.hid ((Sb.start w).alloc (.cells #[.int .i64 k, .int .u64 (u 0), .int .u64 (u 1), .int .u64 (u 2), .int .u64 (u 3), .slice p ps.length c] 27))
  obtain ⟨R, hR⟩ : ∃ R, cntL (n + 1) ps = R := ⟨_, rfl⟩
  rw [hR]
  have HR := Lib.hid hR
  clear hR
  go_enter Tryd.func107, Tryd.ntmps107
  go_wp2
  go_loopw [0, 12] (fun m i wr => ∃ j m' : Nat, j ≤ ps.length ∧ i = .int .i64 j ∧ m = .int .i64 m' ∧ m' ≤ 513 ∧ Hid (cntL m' (ps.drop j) = R) ∧ Sb w wr [(w.heap.size, .cells #[.int .i64 k, .int .u64 (u 0), .int .u64 (u 1), .int .u64 (u 2), .int .u64 (u 3), .slice p ps.length c] 27)]) (fun _ i _ => ps.length - (intOf i).toNat)
  case atStart => exact ⟨0, n + 1, by omega, rfl, by go_num, by omega, HR, S0.out⟩
  case round =>
    obtain ⟨j, m, hj, rfl, rfl, hm, HC, hS⟩ := hrel
    have HS := Lib.hid hS
    clear hS S0 HR
    by_cases hlt : j < ps.length
    · have hne : ps ≠ [] := by intro e; subst e; simp at hlt
      obtain ⟨b, o, rfl, hDb, hx⟩ := HP.out hne
      obtain ⟨k', u', p', n', c', hv, hcell⟩ := hx j hlt
      have hbw := hD b hDb
      have hB := HS.out.1
      have HV := Lib.hid ((RV.mono (fun b h => h) (fun x hx hlt => hB.block x hlt) hv).mono (fun b h => h) (fun x hx hlt => heap_alloc_old wr (.cells #[.int .i64 k', .int .u64 (u' 0), .int .u64 (u' 1), .int .u64 (u' 2), .int .u64 (u' 3), .slice p' n' c'] 27) hlt))
      have HD := Lib.hid fun x (hx : D x) => (by have h1 := hD x hx; have h2 := hB.size; simp; omega : x < (wr.alloc (.cells #[.int .i64 k', .int .u64 (u' 0), .int .u64 (u' 1), .int .u64 (u' 2), .int .u64 (u' 3), .slice p' n' c'] 27)).heap.size)
      have cc : ∀ i y, (nodeC k' u' (.slice p' n' c'))[i]? = some y → wr.cell? ⟨b, o + j * 6 + i, none⟩ = some y := fun i y hy => by
        rw [hB.cell (p := ⟨b, o + j * 6 + i, none⟩) hbw, ← hcell i y hy, show o + j * 6 + i = o + (6 * j + i) by omega]
      have d0 : wr.cell? ⟨b, o + j * 6, none⟩ = some (.int .i64 k') := cc 0 _ rfl
      have d1 : wr.cell? ⟨b, o + j * 6 + 1, none⟩ = some (.int .u64 (u' 0)) := cc 1 _ rfl
      have d2 : wr.cell? ⟨b, o + j * 6 + 2, none⟩ = some (.int .u64 (u' 1)) := cc 2 _ rfl
      have d3 : wr.cell? ⟨b, o + j * 6 + 3, none⟩ = some (.int .u64 (u' 2)) := cc 3 _ rfl
      have d4 : wr.cell? ⟨b, o + j * 6 + 4, none⟩ = some (.int .u64 (u' 3)) := cc 4 _ rfl
      have d5 : wr.cell? ⟨b, o + j * 6 + 5, none⟩ = some (.slice p' n' c') := cc 5 _ rfl
      have HW := Lib.hid (HS.out.up ((Below.refl _ _).alloc (Nat.le_refl _) (.cells #[.int .i64 k', .int .u64 (u' 0), .int .u64 (u' 1), .int .u64 (u' 2), .int .u64 (u' 3), .slice p' n' c'] 27)))
      have hlt' : (j : Int) < (ps.length : Int) := by omega
      by_cases hm2 : 512 < m
      · have hr : m = R := by rw [← HC.out, cntL_stop _ hm2]
        subst hr
        have hm3 : (512 : Int) < (m : Int) := by omega
        clear hcell hv cc hx hB HC
        go_wp2
        go_ret
        exact ⟨rfl, HW.out.1⟩
      · have hm3 : ¬ (512 : Int) < (m : Int) := by omega
        have HC2 := Lib.hid ((cntL_drop hlt hm2).symm.trans HC.out)
        have hIj := Lib.hid (hI.out j hlt m)
        have hc9 : cnt m ps[j] ≤ 513 := by rw [cnt_eq m ps[j] (by omega)]; omega
        generalize hd1 : cnt m ps[j] = d at *
        have hm5 : m ≤ 512 := by omega
        clear hcell hv cc hx hd1 hB HC
        go_wp2_with fail
        refine (hIj.out _ _ hm5 HV.out HD.out).mono ?_
        rintro _ w5 ⟨rfl, hb⟩
        have H5 := Lib.hid (HW.out.up hb)
        clear hb
        go_wp2_with fail
        go_roundw
        case rel => exact ⟨j + 1, d, by omega, by go_num, rfl, hc9, HC2, H5.out⟩
        case measure => simp [intOf]; omega
    · obtain rfl : j = ps.length := by omega
      have hlt' : ¬ ((ps.length : Int) < (ps.length : Int)) := by omega
      have HB := Lib.hid HS.out.1
      have hr : m = R := by rw [← HC.out, List.drop_length]; rfl
      subst hr
      go_wp2
      go_ret
      exact ⟨rfl, HB.out⟩
theorem counted_any {D : Nat → Prop} : ∀ (d : Nat) (t : RT) (n : Nat) {v : Value} {w : World}, dep t ≤ d → n ≤ 512 → (∀ b, D b → b < w.heap.size) → wid t ≤ 9223372036854775806 → RV D w t v → Calls Tryd.prog 107 #[.int .i64 (n : Nat), v] w fun e w' => e = .returned (.int .i64 (cnt n t : Nat)) ∧ Below w.heap.size w w'
  | 0, .mk k u ps, n, v, w, hn, _, _, _, h => by simp [dep] at hn
  | d + 1, .mk k u ps, n, v, w, hn, hn2, hD, hw, h => by
    obtain ⟨hl, hw2⟩ := wid_mk hw
    refine counted_walk n hn2 hD hl h (Lib.hid fun i hi m v' w' hm hv hD' => ?_)
    exact counted_any d ps[i] m (by have := depL_get ps i hi; simp only [dep] at hn; omega) hm hD' (hw2 i hi) hv
set_option maxHeartbeats 2000000 in
theorem size_any {D : Nat → Prop} {t : RT} {v : Value} {w : World} (hD : ∀ b, D b → b < w.heap.size) (hw : wid t ≤ 9223372036854775806) (h : RV D w t v) :
    Calls Tryd.prog 74 #[v] w fun e w' => e = .returned (.int .i64 (min (sz t) 513 : Nat)) ∧ Below w.heap.size w w' := by
  obtain ⟨k, u, p, n, c, rfl⟩ := h.form2
  have S0 := Lib.hid ((Sb.start w).alloc (.cells #[.int .i64 k, .int .u64 (u 0), .int .u64 (u 1), .int .u64 (u 2), .int .u64 (u 3), .slice p n c] 27))
  have HC := Lib.hid (counted_any (dep t) t 0 (w := w.alloc (.cells #[.int .i64 k, .int .u64 (u 0), .int .u64 (u 1), .int .u64 (u 2), .int .u64 (u 3), .slice p n c] 27)) (Nat.le_refl _) (by omega) (fun b hb => by have := hD b hb; simp; omega) hw (h.mono (fun b h => h) (fun b hb hlt => heap_alloc_old w _ hlt)))
  have he : cnt 0 t = min (sz t) 513 := by rw [cnt_eq 0 t (by omega)]; omega
  rw [he] at HC
  clear h he
  go_enter Tryd.func74, Tryd.ntmps74
  go_wp2_with fail
  refine HC.out.mono ?_
  rintro _ w1 ⟨rfl, hb⟩
  have H1 := Lib.hid (S0.out.up hb)
  clear hb
  go_wp2
  go_ret
  exact ⟨rfl, H1.out.1⟩

def fitsB (k : Int) (n : Nat) : Bool := if k = 0 ∨ k = 1 ∨ k = 2 then n == 0 else if k = 3 ∨ k = 4 then decide (0 < n) else if k = 5 ∨ k = 6 ∨ k = 7 then n == 1 else false
theorem rb {a b : Bool} (h : a = b) : Ending.returned (.bool a) = .returned (.bool b) := by rw [h]
theorem nat_beq (n c : Nat) : ((n : Int) == (c : Int)) = (n == c) := by
  rw [Bool.eq_iff_iff]; simp; omega
set_option maxHeartbeats 4000000 in
theorem fits_any (k : Int) (n : Nat) (w : World) : Calls Tryd.prog 111 #[.int .i64 k, .int .i64 n] w fun e w' => e = .returned (.bool (fitsB k n)) ∧ w = w' := by
  have h1 := nat_beq n 0
  have h2 := nat_beq n 1
  have H1 := Lib.hid h1
  have H2 := Lib.hid h2
  clear h1 h2
  by_cases h : k = 0 ∨ k = 1 ∨ k = 2
  · have hf : Hid (fitsB k n = (n == 0)) := Lib.hid (by unfold fitsB; rw [if_pos h])
    rcases h with rfl | rfl | rfl
    all_goals
      go_enter Tryd.func111, Tryd.ntmps111
      go_wp2
      go_ret
      exact ⟨rb (by first | (rw [hf.out]; done) | (rw [hf.out]; first | rfl | exact H1.out | simp)), rfl⟩
  · by_cases h' : k = 3 ∨ k = 4
    · have hf : Hid (fitsB k n = decide (0 < n)) := Lib.hid (by unfold fitsB; rw [if_neg h, if_pos h'])
      rcases h' with rfl | rfl
      all_goals
        go_enter Tryd.func111, Tryd.ntmps111
        go_wp2
        go_ret
        exact ⟨rb (by first | (rw [hf.out]; done) | (rw [hf.out]; first | rfl | simp)), rfl⟩
    · by_cases h'' : k = 5 ∨ k = 6 ∨ k = 7
      · have hf : Hid (fitsB k n = (n == 1)) := Lib.hid (by unfold fitsB; rw [if_neg h, if_neg h', if_pos h''])
        rcases h'' with rfl | rfl | rfl
        all_goals
          go_enter Tryd.func111, Tryd.ntmps111
          go_wp2
          go_ret
          exact ⟨rb (by first | (rw [hf.out]; done) | (rw [hf.out]; first | rfl | exact H2.out | simp)), rfl⟩
      · have hf : Hid (fitsB k n = false) := Lib.hid (by unfold fitsB; rw [if_neg h, if_neg h', if_neg h''])
        have e0 : (k == 0) = false := by rw [beq_eq_false_iff_ne]; omega
        have e1 : (k == 1) = false := by rw [beq_eq_false_iff_ne]; omega
        have e2 : (k == 2) = false := by rw [beq_eq_false_iff_ne]; omega
        have e3 : (k == 3) = false := by rw [beq_eq_false_iff_ne]; omega
        have e4 : (k == 4) = false := by rw [beq_eq_false_iff_ne]; omega
        have e5 : (k == 5) = false := by rw [beq_eq_false_iff_ne]; omega
        have e6 : (k == 6) = false := by rw [beq_eq_false_iff_ne]; omega
        have e7 : (k == 7) = false := by rw [beq_eq_false_iff_ne]; omega
        clear h h' h''
        go_enter Tryd.func111, Tryd.ntmps111
        go_wp2
        go_ret
        exact ⟨rb hf.out.symm, rfl⟩
def zeroU (u : Nat → Int) : Bool := u 0 == 0 && (u 1 == 0 && (u 2 == 0 && u 3 == 0))
theorem eq22g (n : Nat) (x y : Int) (w : World) : (Op.equalIn (n + 1) 22 (.int .u64 x) (.int .u64 y)).run Tryd.prog w = .ok (x == y) w := by
  rw [Op.equalIn]
  simp [run_underlying Tryd.underlying22]
set_option maxHeartbeats 2000000 in
theorem neq24g (u : Nat → Int) (w : World) : (binOp .neq 24 (.agg #[.int .u64 (u 0), .int .u64 (u 1), .int .u64 (u 2), .int .u64 (u 3)]) (.agg #[.int .u64 0, .int .u64 0, .int .u64 0, .int .u64 0])).run Tryd.prog w = .ok (.bool (!zeroU u)) w := by
  have h : ∀ (x : Int) w, (Op.equalIn 9999 22 (.int .u64 x) (.int .u64 0)).run Tryd.prog w = .ok (x == 0) w := fun x w => eq22g 9998 x 0 w
  have e : ∀ w, (Op.equalIn 10000 24 (.agg #[.int .u64 (u 0), .int .u64 (u 1), .int .u64 (u 2), .int .u64 (u 3)]) (.agg #[.int .u64 0, .int .u64 0, .int .u64 0, .int .u64 0])).run Tryd.prog w = .ok (zeroU u) w := fun w => by
    rw [show (10000 : Nat) = 9999 + 1 from rfl, Op.equalIn]
    unfold zeroU
    by_cases a0 : u 0 = 0
    · by_cases a1 : u 1 = 0
      · by_cases a2 : u 2 = 0
        · by_cases a3 : u 3 = 0
          · simp [run_underlying Tryd.underlying24, Tryd.sizeOf22, Std.Legacy.Range.forIn_eq_forIn_range', List.range', part, h, a0, a1, a2, a3]
          · simp [run_underlying Tryd.underlying24, Tryd.sizeOf22, Std.Legacy.Range.forIn_eq_forIn_range', List.range', part, h, a0, a1, a2, a3]
        · simp [run_underlying Tryd.underlying24, Tryd.sizeOf22, Std.Legacy.Range.forIn_eq_forIn_range', List.range', part, h, a0, a1, a2]
      · simp [run_underlying Tryd.underlying24, Tryd.sizeOf22, Std.Legacy.Range.forIn_eq_forIn_range', List.range', part, h, a0, a1]
    · simp [run_underlying Tryd.underlying24, Tryd.sizeOf22, Std.Legacy.Range.forIn_eq_forIn_range', List.range', part, h, a0]
  simp only [binOp]
  simp [Op.equal, Op.maxDepth, e]

mutual
def mayB : RT → Bool
  | .mk k u ps => fitsB k ps.length && (k == 2 || zeroU u) && mayL ps
def mayL : List RT → Bool
  | [] => true
  | t :: ts => mayB t && mayL ts
end
theorem mayL_drop {ts : List RT} {j : Nat} (h : j < ts.length) : mayL (ts.drop j) = (mayB ts[j] && mayL (ts.drop (j + 1))) := by
  rw [List.drop_eq_getElem_cons h, mayL]
set_option maxHeartbeats 4000000 in
theorem may_A {D : Nat → Prop} {k : Int} {u : Nat → Int} {ps : List RT} {v : Value} {w : World} (hf : fitsB k ps.length = false) (hD : ∀ b, D b → b < w.heap.size) (hl : ps.length ≤ 9223372036854775806) (h : RV D w (.mk k u ps) v)
    (hI : Hid (∀ i (hi : i < ps.length) v w, RV D w ps[i] v → (∀ b, D b → b < w.heap.size) → Calls Tryd.prog 82 #[v] w fun e w' => e = .returned (.bool (mayB ps[i])) ∧ Below w.heap.size w w')) :
    Calls Tryd.prog 82 #[v] w fun e w' => e = .returned (.bool false) ∧ Below w.heap.size w w' := by
  obtain ⟨p, c, rfl, hp⟩ := h.parts
  have HP := Lib.hid hp
  have hz := zero27l
  clear h hp
  have S0 := Lib.hid ((Sb.start w).alloc (.cells #[.int .i64 k, .int .u64 (u 0), .int .u64 (u 1), .int .u64 (u 2), .int .u64 (u 3), .slice p ps.length c] 27))
  have hft := Lib.hid fun w => fits_any k ps.length w
  have hnq := neq24g u
  rw [hf] at hft
  clear hf
  go_enter Tryd.func82, Tryd.ntmps82
  go_wp2_with fail
  refine (hft.out _).mono ?_
  rintro _ w9 ⟨rfl, rfl⟩
  go_wp2
  go_ret
  exact ⟨rfl, S0.out.1⟩
set_option maxHeartbeats 4000000 in
theorem may_B {D : Nat → Prop} {k : Int} {u : Nat → Int} {ps : List RT} {v : Value} {w : World} (hf : fitsB k ps.length = true) (hk : k = 2) (hD : ∀ b, D b → b < w.heap.size) (hl : ps.length ≤ 9223372036854775806) (h : RV D w (.mk k u ps) v)
    (hI : Hid (∀ i (hi : i < ps.length) v w, RV D w ps[i] v → (∀ b, D b → b < w.heap.size) → Calls Tryd.prog 82 #[v] w fun e w' => e = .returned (.bool (mayB ps[i])) ∧ Below w.heap.size w w')) :
    Calls Tryd.prog 82 #[v] w fun e w' => e = .returned (.bool (mayL ps)) ∧ Below w.heap.size w w' := by
  obtain ⟨p, c, rfl, hp⟩ := h.parts
  have HP := Lib.hid hp
  have hz := zero27l
  clear h hp
  have S0 := Lib.hid ((Sb.start w).alloc (.cells #[.int .i64 k, .int .u64 (u 0), .int .u64 (u 1), .int .u64 (u 2), .int .u64 (u 3), .slice p ps.length c] 27))
  have hft := Lib.hid fun w => fits_any k ps.length w
  have hnq := neq24g u
  rw [hf] at hft
  clear hf
  subst hk
  obtain ⟨R, hR⟩ : ∃ R, mayL ps = R := ⟨_, rfl⟩
  rw [hR]
  have HR := Lib.hid hR
  clear hR
  go_enter Tryd.func82, Tryd.ntmps82
  go_wp2_with fail
  refine (hft.out _).mono ?_
  rintro _ w9 ⟨rfl, rfl⟩
  go_wp2
  go_loopw [26] (fun i wr => ∃ j : Nat, j ≤ ps.length ∧ i = .int .i64 j ∧ Hid (mayL (ps.drop j) = R) ∧ Sb w wr [(w.heap.size, .cells #[.int .i64 2, .int .u64 (u 0), .int .u64 (u 1), .int .u64 (u 2), .int .u64 (u 3), .slice p ps.length c] 27)]) (fun i _ => ps.length - (intOf i).toNat)
  case atStart => exact ⟨0, by omega, rfl, HR, S0.out⟩
  case round =>
    obtain ⟨j, hj, rfl, HC, hS⟩ := hrel
    have HS := Lib.hid hS
    clear hS S0 HR
    by_cases hlt : j < ps.length
    · have hne : ps ≠ [] := by intro e; subst e; simp at hlt
      obtain ⟨b, o, rfl, hDb, hx⟩ := HP.out hne
      obtain ⟨k', u', p', n', c', hv, hcell⟩ := hx j hlt
      have hbw := hD b hDb
      have hB := HS.out.1
      have HV := Lib.hid ((RV.mono (fun b h => h) (fun x hx hlt => hB.block x hlt) hv).mono (fun b h => h) (fun x hx hlt => heap_alloc_old wr (.cells #[.int .i64 k', .int .u64 (u' 0), .int .u64 (u' 1), .int .u64 (u' 2), .int .u64 (u' 3), .slice p' n' c'] 27) hlt))
      have HD := Lib.hid fun x (hx : D x) => (by have h1 := hD x hx; have h2 := hB.size; simp; omega : x < (wr.alloc (.cells #[.int .i64 k', .int .u64 (u' 0), .int .u64 (u' 1), .int .u64 (u' 2), .int .u64 (u' 3), .slice p' n' c'] 27)).heap.size)
      have cc : ∀ i y, (nodeC k' u' (.slice p' n' c'))[i]? = some y → wr.cell? ⟨b, o + j * 6 + i, none⟩ = some y := fun i y hy => by
        rw [hB.cell (p := ⟨b, o + j * 6 + i, none⟩) hbw, ← hcell i y hy, show o + j * 6 + i = o + (6 * j + i) by omega]
      have d0 : wr.cell? ⟨b, o + j * 6, none⟩ = some (.int .i64 k') := cc 0 _ rfl
      have d1 : wr.cell? ⟨b, o + j * 6 + 1, none⟩ = some (.int .u64 (u' 0)) := cc 1 _ rfl
      have d2 : wr.cell? ⟨b, o + j * 6 + 2, none⟩ = some (.int .u64 (u' 1)) := cc 2 _ rfl
      have d3 : wr.cell? ⟨b, o + j * 6 + 3, none⟩ = some (.int .u64 (u' 2)) := cc 3 _ rfl
      have d4 : wr.cell? ⟨b, o + j * 6 + 4, none⟩ = some (.int .u64 (u' 3)) := cc 4 _ rfl
      have d5 : wr.cell? ⟨b, o + j * 6 + 5, none⟩ = some (.slice p' n' c') := cc 5 _ rfl
      have HW := Lib.hid (HS.out.up ((Below.refl _ _).alloc (Nat.le_refl _) (.cells #[.int .i64 k', .int .u64 (u' 0), .int .u64 (u' 1), .int .u64 (u' 2), .int .u64 (u' 3), .slice p' n' c'] 27)))
      have hlt' : (j : Int) < (ps.length : Int) := by omega
      have HC2 := Lib.hid ((mayL_drop hlt).symm.trans HC.out)
      have hIj := Lib.hid (hI.out j hlt)
      clear hcell hv cc hx hB HC
      cases hm : mayB ps[j] with
      | false =>
        rw [hm] at hIj HC2
        have hr : false = R := by rw [← HC2.out]; rfl
        subst hr
        clear hm HC2
        go_wp2_with fail
        refine (hIj.out _ _ HV.out HD.out).mono ?_
        rintro _ w5 ⟨rfl, hb⟩
        have H5 := Lib.hid (HW.out.up hb)
        clear hb
        go_wp2
        go_ret
        exact ⟨rfl, H5.out.1⟩
      | true =>
        rw [hm] at hIj HC2
        clear hm
        go_wp2_with fail
        refine (hIj.out _ _ HV.out HD.out).mono ?_
        rintro _ w5 ⟨rfl, hb⟩
        have H5 := Lib.hid (HW.out.up hb)
        clear hb
        go_wp2_with fail
        go_roundw
        case rel => exact ⟨j + 1, by omega, by go_num, Lib.hid (by have := HC2.out; rwa [Bool.true_and] at this), H5.out⟩
        case measure => simp [intOf]; omega
    · obtain rfl : j = ps.length := by omega
      have hlt' : ¬ ((ps.length : Int) < (ps.length : Int)) := by omega
      have HB := Lib.hid HS.out.1
      have hr : true = R := by rw [← HC.out, List.drop_length]; rfl
      subst hr
      go_wp2
      go_ret
      exact ⟨rfl, HB.out⟩
set_option maxHeartbeats 4000000 in
theorem may_C {D : Nat → Prop} {k : Int} {u : Nat → Int} {ps : List RT} {v : Value} {w : World} (hf : fitsB k ps.length = true) (hk : k ≠ 2) (hzu : zeroU u = true) (hD : ∀ b, D b → b < w.heap.size) (hl : ps.length ≤ 9223372036854775806) (h : RV D w (.mk k u ps) v)
    (hI : Hid (∀ i (hi : i < ps.length) v w, RV D w ps[i] v → (∀ b, D b → b < w.heap.size) → Calls Tryd.prog 82 #[v] w fun e w' => e = .returned (.bool (mayB ps[i])) ∧ Below w.heap.size w w')) :
    Calls Tryd.prog 82 #[v] w fun e w' => e = .returned (.bool (mayL ps)) ∧ Below w.heap.size w w' := by
  obtain ⟨p, c, rfl, hp⟩ := h.parts
  have HP := Lib.hid hp
  have hz := zero27l
  clear h hp
  have S0 := Lib.hid ((Sb.start w).alloc (.cells #[.int .i64 k, .int .u64 (u 0), .int .u64 (u 1), .int .u64 (u 2), .int .u64 (u 3), .slice p ps.length c] 27))
  have hft := Lib.hid fun w => fits_any k ps.length w
  have hnq := neq24g u
  rw [hf] at hft
  rw [hzu] at hnq
  clear hf hzu
  have hk2 : (k != 2) = true := by rw [bne_iff_ne]; exact hk
  obtain ⟨R, hR⟩ : ∃ R, mayL ps = R := ⟨_, rfl⟩
  rw [hR]
  have HR := Lib.hid hR
  clear hR
  go_enter Tryd.func82, Tryd.ntmps82
  go_wp2_with fail
  refine (hft.out _).mono ?_
  rintro _ w9 ⟨rfl, rfl⟩
  go_wp2
  go_loopw [26] (fun i wr => ∃ j : Nat, j ≤ ps.length ∧ i = .int .i64 j ∧ Hid (mayL (ps.drop j) = R) ∧ Sb w wr [(w.heap.size, .cells #[.int .i64 k, .int .u64 (u 0), .int .u64 (u 1), .int .u64 (u 2), .int .u64 (u 3), .slice p ps.length c] 27)]) (fun i _ => ps.length - (intOf i).toNat)
  case atStart => exact ⟨0, by omega, rfl, HR, S0.out⟩
  case round =>
    obtain ⟨j, hj, rfl, HC, hS⟩ := hrel
    have HS := Lib.hid hS
    clear hS S0 HR
    by_cases hlt : j < ps.length
    · have hne : ps ≠ [] := by intro e; subst e; simp at hlt
      obtain ⟨b, o, rfl, hDb, hx⟩ := HP.out hne
      obtain ⟨k', u', p', n', c', hv, hcell⟩ := hx j hlt
      have hbw := hD b hDb
      have hB := HS.out.1
      have HV := Lib.hid ((RV.mono (fun b h => h) (fun x hx hlt => hB.block x hlt) hv).mono (fun b h => h) (fun x hx hlt => heap_alloc_old wr (.cells #[.int .i64 k', .int .u64 (u' 0), .int .u64 (u' 1), .int .u64 (u' 2), .int .u64 (u' 3), .slice p' n' c'] 27) hlt))
      have HD := Lib.hid fun x (hx : D x) => (by have h1 := hD x hx; have h2 := hB.size; simp; omega : x < (wr.alloc (.cells #[.int .i64 k', .int .u64 (u' 0), .int .u64 (u' 1), .int .u64 (u' 2), .int .u64 (u' 3), .slice p' n' c'] 27)).heap.size)
      have cc : ∀ i y, (nodeC k' u' (.slice p' n' c'))[i]? = some y → wr.cell? ⟨b, o + j * 6 + i, none⟩ = some y := fun i y hy => by
        rw [hB.cell (p := ⟨b, o + j * 6 + i, none⟩) hbw, ← hcell i y hy, show o + j * 6 + i = o + (6 * j + i) by omega]
      have d0 : wr.cell? ⟨b, o + j * 6, none⟩ = some (.int .i64 k') := cc 0 _ rfl
      have d1 : wr.cell? ⟨b, o + j * 6 + 1, none⟩ = some (.int .u64 (u' 0)) := cc 1 _ rfl
      have d2 : wr.cell? ⟨b, o + j * 6 + 2, none⟩ = some (.int .u64 (u' 1)) := cc 2 _ rfl
      have d3 : wr.cell? ⟨b, o + j * 6 + 3, none⟩ = some (.int .u64 (u' 2)) := cc 3 _ rfl
      have d4 : wr.cell? ⟨b, o + j * 6 + 4, none⟩ = some (.int .u64 (u' 3)) := cc 4 _ rfl
      have d5 : wr.cell? ⟨b, o + j * 6 + 5, none⟩ = some (.slice p' n' c') := cc 5 _ rfl
      have HW := Lib.hid (HS.out.up ((Below.refl _ _).alloc (Nat.le_refl _) (.cells #[.int .i64 k', .int .u64 (u' 0), .int .u64 (u' 1), .int .u64 (u' 2), .int .u64 (u' 3), .slice p' n' c'] 27)))
      have hlt' : (j : Int) < (ps.length : Int) := by omega
      have HC2 := Lib.hid ((mayL_drop hlt).symm.trans HC.out)
      have hIj := Lib.hid (hI.out j hlt)
      clear hcell hv cc hx hB HC
      cases hm : mayB ps[j] with
      | false =>
        rw [hm] at hIj HC2
        have hr : false = R := by rw [← HC2.out]; rfl
        subst hr
        clear hm HC2
        go_wp2_with fail
        refine (hIj.out _ _ HV.out HD.out).mono ?_
        rintro _ w5 ⟨rfl, hb⟩
        have H5 := Lib.hid (HW.out.up hb)
        clear hb
        go_wp2
        go_ret
        exact ⟨rfl, H5.out.1⟩
      | true =>
        rw [hm] at hIj HC2
        clear hm
        go_wp2_with fail
        refine (hIj.out _ _ HV.out HD.out).mono ?_
        rintro _ w5 ⟨rfl, hb⟩
        have H5 := Lib.hid (HW.out.up hb)
        clear hb
        go_wp2_with fail
        go_roundw
        case rel => exact ⟨j + 1, by omega, by go_num, Lib.hid (by have := HC2.out; rwa [Bool.true_and] at this), H5.out⟩
        case measure => simp [intOf]; omega
    · obtain rfl : j = ps.length := by omega
      have hlt' : ¬ ((ps.length : Int) < (ps.length : Int)) := by omega
      have HB := Lib.hid HS.out.1
      have hr : true = R := by rw [← HC.out, List.drop_length]; rfl
      subst hr
      go_wp2
      go_ret
      exact ⟨rfl, HB.out⟩
set_option maxHeartbeats 4000000 in
theorem may_D {D : Nat → Prop} {k : Int} {u : Nat → Int} {ps : List RT} {v : Value} {w : World} (hf : fitsB k ps.length = true) (hk : k ≠ 2) (hzu : zeroU u = false) (hD : ∀ b, D b → b < w.heap.size) (hl : ps.length ≤ 9223372036854775806) (h : RV D w (.mk k u ps) v)
    (hI : Hid (∀ i (hi : i < ps.length) v w, RV D w ps[i] v → (∀ b, D b → b < w.heap.size) → Calls Tryd.prog 82 #[v] w fun e w' => e = .returned (.bool (mayB ps[i])) ∧ Below w.heap.size w w')) :
    Calls Tryd.prog 82 #[v] w fun e w' => e = .returned (.bool false) ∧ Below w.heap.size w w' := by
  obtain ⟨p, c, rfl, hp⟩ := h.parts
  have HP := Lib.hid hp
  have hz := zero27l
  clear h hp
  have S0 := Lib.hid ((Sb.start w).alloc (.cells #[.int .i64 k, .int .u64 (u 0), .int .u64 (u 1), .int .u64 (u 2), .int .u64 (u 3), .slice p ps.length c] 27))
  have hft := Lib.hid fun w => fits_any k ps.length w
  have hnq := neq24g u
  rw [hf] at hft
  rw [hzu] at hnq
  clear hf hzu
  have hk2 : (k != 2) = true := by rw [bne_iff_ne]; exact hk
  go_enter Tryd.func82, Tryd.ntmps82
  go_wp2_with fail
  refine (hft.out _).mono ?_
  rintro _ w9 ⟨rfl, rfl⟩
  go_wp2
  go_ret
  exact ⟨rfl, S0.out.1⟩
theorem rmay_any {D : Nat → Prop} : ∀ (d : Nat) (t : RT) {v : Value} {w : World}, dep t ≤ d → (∀ b, D b → b < w.heap.size) → wid t ≤ 9223372036854775806 → RV D w t v → Calls Tryd.prog 82 #[v] w fun e w' => e = .returned (.bool (mayB t)) ∧ Below w.heap.size w w'
  | 0, .mk k u ps, v, w, hn, _, _, h => by simp [dep] at hn
  | d + 1, .mk k u ps, v, w, hn, hD, hw, h => by
    obtain ⟨hl, hw2⟩ := wid_mk hw
    have hI : Hid (∀ i (hi : i < ps.length) v w, RV D w ps[i] v → (∀ b, D b → b < w.heap.size) → Calls Tryd.prog 82 #[v] w fun e w' => e = .returned (.bool (mayB ps[i])) ∧ Below w.heap.size w w') := Lib.hid fun i hi v' w' hv hD' =>
      rmay_any d ps[i] (by have := depL_get ps i hi; simp only [dep] at hn; omega) hD' (hw2 i hi) hv
    rw [mayB]
    cases hf : fitsB k ps.length with
    | false => exact may_A hf hD hl h hI
    | true =>
      by_cases hk : k = 2
      · have := may_B hf hk hD hl h hI
        rw [show (k == 2) = true from by simp [hk]]; simpa using this
      · rw [show (k == 2) = false from by simp [hk]]
        cases hz : zeroU u with
        | false => have := may_D hf hk hz hD hl h hI; simpa using this
        | true => have := may_C hf hk hz hD hl h hI; simpa using this

def checkE (t : RT) : Int := if 512 < sz t then 3 else if 16 < dep t then 51 else if mayB t then 0 else 2
set_option maxHeartbeats 4000000 in
theorem rcheck_any {D : Nat → Prop} {t : RT} {v : Value} {w : World} (hD : ∀ b, D b → b < w.heap.size) (hw : wid t ≤ 9223372036854775806) (h : RV D w t v) :
    Calls Tryd.prog 48 #[v] w fun e w' => e = .returned (.int .i64 (checkE t)) ∧ Below w.heap.size w w' := by
  obtain ⟨k, u, p, n, c, rfl⟩ := h.form2
  have S0 := Lib.hid ((Sb.start w).alloc (.cells #[.int .i64 k, .int .u64 (u 0), .int .u64 (u 1), .int .u64 (u 2), .int .u64 (u 3), .slice p n c] 27))
  have HR := Lib.hid fun w' (hb : Below w.heap.size w w') => (⟨RV.mono (fun b h => h) (fun b hb' hlt => hb.block b hlt) h, fun b hd => Nat.lt_of_lt_of_le (hD b hd) hb.size⟩ : RV D w' t (.agg #[.int .i64 k, .int .u64 (u 0), .int .u64 (u 1), .int .u64 (u 2), .int .u64 (u 3), .slice p n c]) ∧ ∀ b, D b → b < w'.heap.size)
  have hce : checkE t = if 512 < sz t then 3 else if 16 < dep t then 51 else if mayB t then 0 else 2 := rfl
  have HCE := Lib.hid hce
  have hdz := dep_sz t
  have hwz := wid_sz t
  clear h hce
  by_cases h1 : 512 < sz t
  · have hc : checkE t = 3 := by rw [HCE.out, if_pos h1]
    rw [hc]
    have hm : (512 : Int) < ((min (sz t) 513 : Nat) : Int) := by omega
    have HS := Lib.hid fun w' hb => size_any (w := w') (HR.out w' hb).2 hw (HR.out w' hb).1
    generalize (min (sz t) 513 : Nat) = m at *
    go_enter Tryd.func48, Tryd.ntmps48
    go_wp2_with fail
    refine (HS.out _ S0.out.1).mono ?_
    rintro _ w1 ⟨rfl, hb⟩
    have H1 := Lib.hid (S0.out.up hb)
    clear hb
    go_wp2
    go_ret
    exact ⟨rfl, H1.out.1⟩
  · have hm : ¬ (512 : Int) < ((min (sz t) 513 : Nat) : Int) := by omega
    have HS := Lib.hid fun w' hb => size_any (w := w') (HR.out w' hb).2 hw (HR.out w' hb).1
    have HDp := Lib.hid fun w' hb => depth_any (w := w') (dep t) t (Nat.le_refl _) (by omega) (HR.out w' hb).2 (by omega) (HR.out w' hb).1
    have HMy := Lib.hid fun w' hb => rmay_any (w := w') (dep t) t (Nat.le_refl _) (HR.out w' hb).2 hw (HR.out w' hb).1
    generalize (min (sz t) 513 : Nat) = m at *
    by_cases h2 : 16 < dep t
    · have hc : checkE t = 51 := by rw [HCE.out, if_neg h1, if_pos h2]
      rw [hc]
      have hd : (16 : Int) < ((dep t : Nat) : Int) := by omega
      generalize dep t = d at *
      go_enter Tryd.func48, Tryd.ntmps48
      go_wp2_with fail
      refine (HS.out _ S0.out.1).mono ?_
      rintro _ w1 ⟨rfl, hb⟩
      have H1 := Lib.hid (S0.out.up hb)
      have d0 := H1.out.cell 0; have d1 := H1.out.cell 1; have d2 := H1.out.cell 2; have d3 := H1.out.cell 3; have d4 := H1.out.cell 4; have d5 := H1.out.cell 5
      simp only [List.getElem?_toArray, List.getElem?_cons_zero, List.getElem?_cons_succ] at d0 d1 d2 d3 d4 d5
      clear hb
      go_wp2_with fail
      refine (HDp.out _ H1.out.1).mono ?_
      rintro _ w2 ⟨rfl, hb⟩
      have H2 := Lib.hid (H1.out.up hb)
      clear hb
      go_wp2
      go_ret
      exact ⟨rfl, H2.out.1⟩
    · have hd : ¬ (16 : Int) < ((dep t : Nat) : Int) := by omega
      have hc : checkE t = if mayB t then 0 else 2 := by rw [HCE.out, if_neg h1, if_neg h2]
      rw [hc]
      generalize dep t = d at *
      cases hmy : mayB t
      all_goals
        rw [hmy] at HMy
        clear hmy hc
        go_enter Tryd.func48, Tryd.ntmps48
        go_wp2_with fail
        refine (HS.out _ S0.out.1).mono ?_
        rintro _ w1 ⟨rfl, hb⟩
        have H1 := Lib.hid (S0.out.up hb)
        have d0 := H1.out.cell 0; have d1 := H1.out.cell 1; have d2 := H1.out.cell 2; have d3 := H1.out.cell 3; have d4 := H1.out.cell 4; have d5 := H1.out.cell 5
        simp only [List.getElem?_toArray, List.getElem?_cons_zero, List.getElem?_cons_succ] at d0 d1 d2 d3 d4 d5
        clear hb
        go_wp2_with fail
        refine (HDp.out _ H1.out.1).mono ?_
        rintro _ w2 ⟨rfl, hb⟩
        have H2 := Lib.hid (H1.out.up hb)
        clear d0 d1 d2 d3 d4 d5 hb
        have d0 := H2.out.cell 0; have d1 := H2.out.cell 1; have d2 := H2.out.cell 2; have d3 := H2.out.cell 3; have d4 := H2.out.cell 4; have d5 := H2.out.cell 5
        simp only [List.getElem?_toArray, List.getElem?_cons_zero, List.getElem?_cons_succ] at d0 d1 d2 d3 d4 d5
        go_wp2_with fail
        refine (HMy.out _ H2.out.1).mono ?_
        rintro _ w3 ⟨rfl, hb⟩
        have H3 := Lib.hid (H2.out.up hb)
        clear hb
        go_wp2
        go_ret
        exact ⟨rfl, H3.out.1⟩
end Go.Proofs.YthglciccejholaaDoor
