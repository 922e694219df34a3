/- Texts of package regs, one behind the other. -/
import Derived.Test.YthglciccejholaaDoorProg
import Derived.Test.YthglciccejholaaDoorRG44
import Derived.Test.YthglciccejholaaDoorV9
import Derived.WalkKit
import Derived.WalkLawsBesides
import Derived.WalkSpells
import Derived.Outline
import Derived.Lib.Walk
import Derived.Lib.Hide
import Derived.RegionTactic
import Derived.LoopTactic
import Derived.Below
import Derived.IntWalk
import Derived.Deep.QuietTactic
import Derived.BigQuiet
import Derived.Deep.Cut
import Derived.Deep.CutRange
import Derived.Test.YthglciccejholaaDoorV5
import Derived.Lib.Slices
import Derived.Lib.Strings
import Derived.Deep.MidRow
import Derived.Maps.AppendAt
import Derived.Laws.Rows
import Derived.Laws.Tables
import Derived.Deep.WholeRow
import Derived.Lib.SliceRun
import Derived.Laws.MakeOwn
import Derived.Deep.RegionLaw
import Derived.Deep.RegionLawGrows
import Derived.Test.YthglciccejholaaDoorRg
section
/- Package regs: the reader's small steps: what comes next. -/
namespace Go.Proofs.YthglciccejholaaDoor.R5
set_option linter.unusedSimpArgs false
set_option linter.unusedVariables false
set_option maxRecDepth 100000
open Go.RowKit

def isZ (v : Value) : Bool := match v with
  | .int .u64 (.ofNat 0) => true
  | _ => false
def isZi (v : Value) : Bool := match v with
  | .int .i64 (.ofNat 0) => true
  | _ => false
theorem isZ_eq {v : Value} (h : isZ v = true) : v = .int .u64 0 := by
  unfold isZ at h
  split at h
  · rfl
  · cases h
theorem isZi_eq {v : Value} (h : isZi v = true) : v = .int .i64 0 := by
  unfold isZi at h
  split at h
  · rfl
  · cases h
def zchk : List Value → Nat → Bool
  | [], n => (match n with | 0 => true | _ + 1 => false)
  | v :: r, n => (match n with
    | 0 => false
    | n + 1 => isZ v && zchk r n)
theorem zchk_eq : ∀ (l : List Value) (n : Nat), zchk l n = true → l = List.replicate n (.int .u64 0)
  | [], n, h => by
    cases n with
    | zero => rfl
    | succ n => simp [zchk] at h
  | v :: r, n, h => by
    cases n with
    | zero => simp [zchk] at h
    | succ n =>
      have h' : (isZ v && zchk r n) = true := h
      rw [Bool.and_eq_true] at h'
      rw [List.replicate_succ, ← zchk_eq r n h'.2, isZ_eq h'.1]
def zall (n : Nat) (l : List Value) : Bool := match l with
  | v :: r => isZi v && zchk r n
  | [] => false
def z68chk (n : Nat) (z : Option Value) : Bool := match z with
  | some (.agg cs) => zall n cs.toList
  | _ => false
theorem z68_eq {n : Nat} {v : Value} (h : z68chk n (some v) = true) : v = .agg (#[.int .i64 0] ++ Array.replicate n (.int .u64 0)) := by
  cases v with
  | agg cs =>
    have h' : zall n cs.toList = true := h
    cases hl : cs.toList with
    | nil => rw [hl] at h'; cases h'
    | cons a r =>
      rw [hl] at h'
      have h2 : (isZi a && zchk r n) = true := h'
      rw [Bool.and_eq_true] at h2
      congr 1
      apply Array.toList_inj.1
      rw [hl, Array.toList_append, Array.toList_replicate, zchk_eq r n h2.2, isZi_eq h2.1]
      rfl
  | _ => cases h
set_option maxRecDepth 1000000 in
theorem z68_true : z68chk 6144 ((Tryd.prog.info? 94).bind (·.zero)) = true := by kernel_rfl
theorem rep_get (n i : Nat) (h0 : i ≠ 0) (h : i < n + 1) : (#[.int .i64 0] ++ Array.replicate n (.int .u64 0) : Array Value)[i]? = some (.int .u64 0) := by
  rw [Array.getElem?_append_right (by simp; omega), Array.getElem?_replicate, if_pos (by simp; omega)]
theorem netC_zero : (#[.int .i64 0] ++ Array.replicate 6144 (.int .u64 0) : Array Value) = netC N0 := by
  refine arr_ext (n := 6145) (by rw [Array.size_append, Array.size_replicate]; rfl) (netC_size N0) fun i hi => ?_
  rw [netC_get N0 i hi]
  unfold netV
  by_cases h0 : i = 0
  · subst h0; rw [if_pos rfl, Array.getElem?_append_left (by decide)]; rfl
  · rw [if_neg h0, rep_get _ _ h0 hi]
    have hz : ∀ j, wf (fun _ => false) j = 0 := fun j => by show ((W noS j : Nat) : Int) = 0; rw [W_noS]; rfl
    split
    · show _ = some (Value.int .u64 (wf (fun _ => false) _)); rw [hz]
    · show _ = some (Value.int .u64 (wf (fun _ => false) _)); rw [hz]
theorem zero_of {P : Program} {t : TypeId} {v : Value} (h : (P.info? t).bind (·.zero) = some v) (w : World) : (zeroValue t).run P w = .ok v w := by
  cases hi : P.info? t with
  | none => rw [hi] at h; cases h
  | some i =>
    rw [hi] at h
    have hz : i.zero = some v := h
    simp [zeroValue, typeInfo, hi, hz]
theorem zero68l (w : World) : (zeroValue 94).run Tryd.prog w = .ok (.agg (netC N0)) w := by
  have h := z68_true
  cases hz : (Tryd.prog.info? 94).bind (·.zero) with
  | none => rw [hz] at h; cases h
  | some v =>
    rw [hz] at h
    rw [← netC_zero, ← z68_eq h]
    exact zero_of hz w
/-- Does a pattern match a text? -/
def matB (t : RT) : List UInt8 → Bool
  | [] => (layN t N0).2.e
  | c :: cs => nzS (andS (runS (layN t N0).1 (andS (layN t N0).2.f ((layN t N0).1.has c.toNat)) cs) (layN t N0).2.l)
/-- What Matches answers. -/
def mtP (t : RT) (x : List UInt8) : Bool × Int := if checkE t ≠ 0 then (false, checkE t) else if 65536 < x.length then (false, 3) else (matB t x, 0)
theorem checkE_ok {t : RT} (hc : checkE t = 0) : mayB t = true ∧ sz t ≤ 512 ∧ dep t ≤ 16 := by
  unfold checkE at hc
  split at hc
  · cases hc
  · split at hc
    · cases hc
    · split at hc
      · rename_i h h3 h2; exact ⟨h2, by omega, by omega⟩
      · cases hc
theorem Below.nk {b : Nat} {B : Nat} {N : Net} {w0 x y : World} (h : Below B w0 x) (hB : B ≤ b) (k : Nk b N x y) : Below B w0 y := h.trans (k.2.1.mono hB)
set_option maxHeartbeats 8000000 in
theorem matches_E {D : Nat → Prop} {t : RT} {v : Value} {w : World} (x : List UInt8) (hD : ∀ b, D b → b < w.heap.size) (hw : wid t ≤ 9223372036854775806) (hok : okT t) (hw0 : 0 < w.heap.size) (hT : Tb w) (h : RV D w t v) (hc : checkE t ≠ 0) :
    Calls Tryd.prog 16 #[v, .string (bs x)] w fun e w' => e = .returned (.tuple #[.bool false, .int .i64 (checkE t)]) ∧ Below w.heap.size w w' := by
  obtain ⟨k, u, p, n, c, rfl⟩ := h.form2
  have S0 := Lib.hid ((Sb.start w).alloc (.cells #[.int .i64 k, .int .u64 (u 0), .int .u64 (u 1), .int .u64 (u 2), .int .u64 (u 3), .slice p n c] 27))
  have HR := Lib.hid fun w' (hb : Below w.heap.size w w') => (⟨RV.mono (fun b h => h) (fun b hb' hlt => hb.block b hlt) h, fun b hd => Nat.lt_of_lt_of_le (hD b hd) hb.size⟩ : RV D w' t (.agg #[.int .i64 k, .int .u64 (u 0), .int .u64 (u 1), .int .u64 (u 2), .int .u64 (u 3), .slice p n c]) ∧ ∀ b, D b → b < w'.heap.size)
  have HC := Lib.hid fun w' hb => rcheck_any (w := w') (HR.out w' hb).2 hw (HR.out w' hb).1
  have hne : (checkE t != 0) = true := by rw [bne_iff_ne]; exact hc
  clear h hok
  generalize checkE t = E at *
  go_enter Tryd.func16, Tryd.ntmps16
  go_wp2_with fail
  refine (HC.out _ S0.out.1).mono ?_
  rintro _ w1 ⟨rfl, hb⟩
  have S1 := Lib.hid (S0.out.up hb)
  clear hb S0
  go_wp2
  go_ret2
  exact ⟨rfl, S1.out.1⟩
set_option maxHeartbeats 8000000 in
theorem matches_L {D : Nat → Prop} {t : RT} {v : Value} {w : World} (x : List UInt8) (hD : ∀ b, D b → b < w.heap.size) (hw : wid t ≤ 9223372036854775806) (hok : okT t) (hw0 : 0 < w.heap.size) (hT : Tb w) (h : RV D w t v) (hc : checkE t = 0) (hl : 65536 < x.length) :
    Calls Tryd.prog 16 #[v, .string (bs x)] w fun e w' => e = .returned (.tuple #[.bool false, .int .i64 3]) ∧ Below w.heap.size w w' := by
  obtain ⟨k, u, p, n, c, rfl⟩ := h.form2
  have S0 := Lib.hid ((Sb.start w).alloc (.cells #[.int .i64 k, .int .u64 (u 0), .int .u64 (u 1), .int .u64 (u 2), .int .u64 (u 3), .slice p n c] 27))
  have HR := Lib.hid fun w' (hb : Below w.heap.size w w') => (⟨RV.mono (fun b h => h) (fun b hb' hlt => hb.block b hlt) h, fun b hd => Nat.lt_of_lt_of_le (hD b hd) hb.size⟩ : RV D w' t (.agg #[.int .i64 k, .int .u64 (u 0), .int .u64 (u 1), .int .u64 (u 2), .int .u64 (u 3), .slice p n c]) ∧ ∀ b, D b → b < w'.heap.size)
  have HC := Lib.hid fun w' hb => rcheck_any (w := w') (HR.out w' hb).2 hw (HR.out w' hb).1
  rw [hc] at HC
  clear h hok
  have hsz : ((bs x).size : Int) = (x.length : Nat) := rfl
  have hgt : (65536 : Int) < ((bs x).size : Int) := by omega
  go_enter Tryd.func16, Tryd.ntmps16
  go_wp2_with fail
  refine (HC.out _ S0.out.1).mono ?_
  rintro _ w1 ⟨rfl, hb⟩
  have S1 := Lib.hid (S0.out.up hb)
  clear hb S0
  go_wp2
  go_ret2
  exact ⟨rfl, S1.out.1⟩
set_option maxHeartbeats 8000000 in
theorem matches_0 {D : Nat → Prop} {t : RT} {v : Value} {w : World}  (hD : ∀ b, D b → b < w.heap.size) (hw : wid t ≤ 9223372036854775806) (hok : okT t) (hw0 : 0 < w.heap.size) (hT : Tb w) (h : RV D w t v) (hc : checkE t = 0) :
    Calls Tryd.prog 16 #[v, .string (bs ([] : List UInt8))] w fun e w' => e = .returned (.tuple #[.bool (matB t []), .int .i64 0]) ∧ Below w.heap.size w w' := by
  obtain ⟨k, u, p, n, c, rfl⟩ := h.form2
  have S0 := Lib.hid ((Sb.start w).alloc (.cells #[.int .i64 k, .int .u64 (u 0), .int .u64 (u 1), .int .u64 (u 2), .int .u64 (u 3), .slice p n c] 27))
  have HR := Lib.hid fun w' (hb : Below w.heap.size w w') => (⟨RV.mono (fun b h => h) (fun b hb' hlt => hb.block b hlt) h, fun b hd => Nat.lt_of_lt_of_le (hD b hd) hb.size⟩ : RV D w' t (.agg #[.int .i64 k, .int .u64 (u 0), .int .u64 (u 1), .int .u64 (u 2), .int .u64 (u 3), .slice p n c]) ∧ ∀ b, D b → b < w'.heap.size)
  have HC := Lib.hid fun w' hb => rcheck_any (w := w') (HR.out w' hb).2 hw (HR.out w' hb).1
  rw [hc] at HC
  obtain ⟨hm, hs, hd⟩ := checkE_ok hc
  have HLP : Hid (∀ b, w.heap.size ≤ b → LP b D t) := Lib.hid fun b hb => lay_any (fun z hz => Nat.lt_of_lt_of_le (hD z hz) hb) _ t (Nat.le_refl _) hm hok
  have HT0 := Lib.hid hT
  have hz68 := zero68l
  clear h hok hm hd hT
  obtain ⟨X, hX⟩ : ∃ X, layN t N0 = X := ⟨_, rfl⟩
  obtain ⟨Kn, q⟩ := X
  simp only [matB, hX]
  have HX := Lib.hid hX
  clear hX
  go_enter Tryd.func16, Tryd.ntmps16
  go_wp2_with fail
  refine (HC.out _ S0.out.1).mono ?_
  rintro _ w1 ⟨rfl, hb⟩
  have S1 := Lib.hid (S0.out.up hb)
  clear hb S0
  have Q := S1.out
  have hlt1 := Q.lt
  have v0 : w1.cell? ⟨w.heap.size, 0, none⟩ = some (.int .i64 k) := Q.cell 0
  have v1 : w1.cell? ⟨w.heap.size, 1, none⟩ = some (.int .u64 (u 0)) := Q.cell 1
  have v2 : w1.cell? ⟨w.heap.size, 2, none⟩ = some (.int .u64 (u 1)) := Q.cell 2
  have v3 : w1.cell? ⟨w.heap.size, 3, none⟩ = some (.int .u64 (u 2)) := Q.cell 3
  have v4 : w1.cell? ⟨w.heap.size, 4, none⟩ = some (.int .u64 (u 3)) := Q.cell 4
  have v5 : w1.cell? ⟨w.heap.size, 5, none⟩ = some (.slice p n c) := Q.cell 5
  have hb1 : Below w.heap.size w (w1.alloc (.cells (netC N0) 94)) := Q.1.alloc Q.1.size _
  have hn1 : (w1.alloc (.cells (netC N0) 94)).heap[w1.heap.size]? = some (.cells (netC N0) 94 (0, 0)) := heap_alloc_last w1 _
  have HL := Lib.hid ((HLP.out w1.heap.size Q.1.size).out N0 _ _ hn1 (by show 0 + sz t ≤ 512; omega) (HR.out _ hb1).1)
  have hbz := Q.1.size
  rw [HX.out] at HL
  clear HX hn1 Q
  go_upto_region 7 with fail
  refine wp_region_list ?_
  refine wpList_plain rfl fun K hK => ?_
  have hK2 := Lib.hid hK
  clear hK
  go_wp2_with fail
  refine hK2.out _ _ ?_
  clear hK2 K
  refine wpList_plain rfl fun K hK => ?_
  have hK2 := Lib.hid hK
  clear hK
  go_wp2_with fail
  refine (HL.out).mono ?_
  rintro _ x1 ⟨rfl, hk⟩
  refine hK2.out _ _ ?_
  clear hK2 K
  have hB := Lib.hid (Below.nk hb1 hbz hk)
  have hk1 := Lib.hid hk.again
  have hsx : w1.heap.size < x1.heap.size := hk.lt
  clear hk HL hb1 v0 v1 v2 v3 v4 v5 HLP HR HC S1 hz68
  refine wpList_plain rfl fun K hK => ?_
  have hK2 := Lib.hid hK
  clear hK
  go_wp2_with fail
  refine hK2.out _ _ ?_
  clear hK2 K
  rw [show (#[.bool false, .int .u64 0, .int .u64 0, .int .u64 0, .int .u64 0, .int .u64 0, .int .u64 0, .int .u64 0, .int .u64 0, .int .u64 0, .int .u64 0, .int .u64 0, .int .u64 0, .int .u64 0, .int .u64 0, .int .u64 0, .int .u64 0] : Array Value) = prtZ from rfl]
  refine wpList_plain rfl fun K hK => wp_store_new 96 (.tmp 8) (.tmp 18) rfl prtZ (prtA q) _ (by simp) rfl rfl (by rw [info70, prtA_size]) (by rw [prtA_size]; rfl) (prtA_one q) (hK _ _ ?_)
  simp only [Act.put]
  refine wpList_nil ?_
  refine at_worldQ (fun y => Nk w1.heap.size Kn y y ∧ Below w.heap.size w y ∧ y.heap[x1.heap.size]? = some (.cells (prtA q) 96 (0, 0))) ⟨(hk1.out.up ((Below.refl _ _).alloc (Nat.le_refl _) _)).again, hB.out.alloc hB.out.size _, heap_alloc_last x1 _⟩ fun x2 hx2 => ?_
  have H2 := Lib.hid hx2
  clear hx2 hk1 hB
  have hb0 : 0 < w1.heap.size := by omega
  generalize x1.heap.size = P at *
  generalize w1.heap.size = b at *
  have p0 : x2.cell? ⟨P, 0, none⟩ = some (.bool q.e) := cell_of_row x2 P 0 _ 96 (0, 0) H2.out.2.2
  go_wp2_with fail
  go_ret2
  exact ⟨rfl, H2.out.2.1⟩
set_option maxHeartbeats 8000000 in
theorem matches_1 {D : Nat → Prop} {t : RT} {v : Value} {w : World} (c0 : UInt8) (cs : List UInt8) (hD : ∀ b, D b → b < w.heap.size) (hw : wid t ≤ 9223372036854775806) (hok : okT t) (hw0 : 0 < w.heap.size) (hT : Tb w) (h : RV D w t v) (hc : checkE t = 0) (hl : (c0 :: cs).length ≤ 65536) :
    Calls Tryd.prog 16 #[v, .string (bs (c0 :: cs))] w fun e w' => e = .returned (.tuple #[.bool (matB t (c0 :: cs)), .int .i64 0]) ∧ Below w.heap.size w w' := by
  obtain ⟨k, u, p, n, c, rfl⟩ := h.form2
  have S0 := Lib.hid ((Sb.start w).alloc (.cells #[.int .i64 k, .int .u64 (u 0), .int .u64 (u 1), .int .u64 (u 2), .int .u64 (u 3), .slice p n c] 27))
  have HR := Lib.hid fun w' (hb : Below w.heap.size w w') => (⟨RV.mono (fun b h => h) (fun b hb' hlt => hb.block b hlt) h, fun b hd => Nat.lt_of_lt_of_le (hD b hd) hb.size⟩ : RV D w' t (.agg #[.int .i64 k, .int .u64 (u 0), .int .u64 (u 1), .int .u64 (u 2), .int .u64 (u 3), .slice p n c]) ∧ ∀ b, D b → b < w'.heap.size)
  have HC := Lib.hid fun w' hb => rcheck_any (w := w') (HR.out w' hb).2 hw (HR.out w' hb).1
  rw [hc] at HC
  obtain ⟨hm, hs, hd⟩ := checkE_ok hc
  have HLP : Hid (∀ b, w.heap.size ≤ b → LP b D t) := Lib.hid fun b hb => lay_any (fun z hz => Nat.lt_of_lt_of_le (hD z hz) hb) _ t (Nat.le_refl _) hm hok
  have HT0 := Lib.hid hT
  have hz68 := zero68l
  clear h hok hm hd hT
  obtain ⟨X, hX⟩ : ∃ X, layN t N0 = X := ⟨_, rfl⟩
  obtain ⟨Kn, q⟩ := X
  simp only [matB, hX]
  obtain ⟨RR, hRR⟩ : ∃ R, nzS (andS (runS Kn (andS q.f (Kn.has c0.toNat)) cs) q.l) = R := ⟨_, rfl⟩
  rw [hRR]
  have HRR := Lib.hid hRR
  clear hRR
  have HX := Lib.hid hX
  clear hX
  have hl2 : cs.length + 1 ≤ 65536 := hl
  have hsz : (bs (c0 :: cs)).size = cs.length + 1 := rfl
  have hgt : ¬ (65536 : Int) < ((bs (c0 :: cs)).size : Int) := by omega
  have hne : (bs (c0 :: cs)).toList.isEmpty = false := (bs_ne c0 cs).1
  obtain ⟨sx, hsx⟩ : ∃ s, bs (c0 :: cs) = s := ⟨_, rfl⟩
  rw [hsx] at hgt hne ⊢
  have HSX := Lib.hid hsx
  clear hl hsz hsx
  go_enter Tryd.func16, Tryd.ntmps16
  go_wp2_with fail
  refine (HC.out _ S0.out.1).mono ?_
  rintro _ w1 ⟨rfl, hb⟩
  have S1 := Lib.hid (S0.out.up hb)
  clear hb S0
  have Q := S1.out
  have hlt1 := Q.lt
  have v0 : w1.cell? ⟨w.heap.size, 0, none⟩ = some (.int .i64 k) := Q.cell 0
  have v1 : w1.cell? ⟨w.heap.size, 1, none⟩ = some (.int .u64 (u 0)) := Q.cell 1
  have v2 : w1.cell? ⟨w.heap.size, 2, none⟩ = some (.int .u64 (u 1)) := Q.cell 2
  have v3 : w1.cell? ⟨w.heap.size, 3, none⟩ = some (.int .u64 (u 2)) := Q.cell 3
  have v4 : w1.cell? ⟨w.heap.size, 4, none⟩ = some (.int .u64 (u 3)) := Q.cell 4
  have v5 : w1.cell? ⟨w.heap.size, 5, none⟩ = some (.slice p n c) := Q.cell 5
  have hb1 : Below w.heap.size w (w1.alloc (.cells (netC N0) 94)) := Q.1.alloc Q.1.size _
  have hn1 : (w1.alloc (.cells (netC N0) 94)).heap[w1.heap.size]? = some (.cells (netC N0) 94 (0, 0)) := heap_alloc_last w1 _
  have HL := Lib.hid ((HLP.out w1.heap.size Q.1.size).out N0 _ _ hn1 (by show 0 + sz t ≤ 512; omega) (HR.out _ hb1).1)
  have hbz := Q.1.size
  rw [HX.out] at HL
  clear HX hn1 Q
  go_upto_region 7 with fail
  refine wp_region_list ?_
  refine wpList_plain rfl fun K hK => ?_
  have hK2 := Lib.hid hK
  clear hK
  go_wp2_with fail
  refine hK2.out _ _ ?_
  clear hK2 K
  refine wpList_plain rfl fun K hK => ?_
  have hK2 := Lib.hid hK
  clear hK
  go_wp2_with fail
  refine (HL.out).mono ?_
  rintro _ x1 ⟨rfl, hk⟩
  refine hK2.out _ _ ?_
  clear hK2 K
  have hB := Lib.hid (Below.nk hb1 hbz hk)
  have hk1 := Lib.hid hk.again
  have hsx : w1.heap.size < x1.heap.size := hk.lt
  clear hk HL hb1 v0 v1 v2 v3 v4 v5 HLP HR HC S1 hz68
  refine wpList_plain rfl fun K hK => ?_
  have hK2 := Lib.hid hK
  clear hK
  go_wp2_with fail
  refine hK2.out _ _ ?_
  clear hK2 K
  rw [show (#[.bool false, .int .u64 0, .int .u64 0, .int .u64 0, .int .u64 0, .int .u64 0, .int .u64 0, .int .u64 0, .int .u64 0, .int .u64 0, .int .u64 0, .int .u64 0, .int .u64 0, .int .u64 0, .int .u64 0, .int .u64 0, .int .u64 0] : Array Value) = prtZ from rfl]
  refine wpList_plain rfl fun K hK => wp_store_new 96 (.tmp 8) (.tmp 18) rfl prtZ (prtA q) _ (by simp) rfl rfl (by rw [info70, prtA_size]) (by rw [prtA_size]; rfl) (prtA_one q) (hK _ _ ?_)
  simp only [Act.put]
  refine wpList_nil ?_
  refine at_worldQ (fun y => Nk w1.heap.size Kn y y ∧ Below w.heap.size w y ∧ y.heap[x1.heap.size]? = some (.cells (prtA q) 96 (0, 0))) ⟨(hk1.out.up ((Below.refl _ _).alloc (Nat.le_refl _) _)).again, hB.out.alloc hB.out.size _, heap_alloc_last x1 _⟩ fun x2 hx2 => ?_
  have H2 := Lib.hid hx2
  clear hx2 hk1 hB
  have hb0 : 0 < w1.heap.size := by omega
  generalize x1.heap.size = P at *
  generalize w1.heap.size = b at *
  have hRc := reaches_any q c0 cs H2.out.1.1 hb0 (HT0.out.mono (H2.out.2.1.block 0 hw0)) (by omega)
  rw [HRR.out, HSX.out] at hRc
  have HRc := Lib.hid hRc
  clear hRc
  go_upto_region 10 with fail
  refine wp_region_list ?_
  refine wpList_plain rfl fun K hK => wp_load_prt (.tmp 8) rfl P rfl q (H2.out.2.2) (hK _ _ ?_)
  simp only [Act.put, List.setIfInBounds_toArray, List.set_cons_succ, List.set_cons_zero]
  refine wpList_plain rfl fun K hK => ?_
  have hK2 := Lib.hid hK
  clear hK
  go_wp2_with fail
  refine hK2.out _ _ ?_
  clear hK2 K
  refine wpList_plain rfl fun K hK => ?_
  have hK2 := Lib.hid hK
  clear hK
  go_wp2_with fail
  refine (HRc.out).mono ?_
  rintro _ x3 ⟨rfl, hk⟩
  refine hK2.out _ _ ?_
  clear hK2 K
  have H3 := Lib.hid (Below.nk H2.out.2.1 hbz hk)
  clear hk HRc
  go_wp2_with fail
  go_ret2
  exact ⟨rfl, H3.out⟩
theorem matches_any {D : Nat → Prop} {t : RT} {v : Value} {w : World} (x : List UInt8) (hD : ∀ b, D b → b < w.heap.size) (hw : wid t ≤ 9223372036854775806) (hok : okT t) (hw0 : 0 < w.heap.size) (hT : Tb w) (h : RV D w t v) :
    Calls Tryd.prog 16 #[v, .string (bs x)] w fun e w' => e = .returned (.tuple #[.bool (mtP t x).1, .int .i64 (mtP t x).2]) ∧ Below w.heap.size w w' := by
  unfold mtP
  by_cases hc : checkE t ≠ 0
  · rw [if_pos hc]; exact matches_E x hD hw hok hw0 hT h hc
  · rw [if_neg hc]
    have hc' : checkE t = 0 := by omega
    by_cases hl : 65536 < x.length
    · rw [if_pos hl]; exact matches_L x hD hw hok hw0 hT h hc' hl
    · rw [if_neg hl]
      cases x with
      | nil => exact matches_0 hD hw hok hw0 hT h hc'
      | cons c cs => exact matches_1 c cs hD hw hok hw0 hT h hc' (by omega)
end Go.Proofs.YthglciccejholaaDoor.R5
end
section
/- Package regs: the reader's small steps: what comes next. -/
namespace Go.Proofs.YthglciccejholaaDoor.R5
set_option linter.unusedSimpArgs false
set_option linter.unusedVariables false
set_option maxRecDepth 100000
open Go.RowKit

theorem runS_pth {M : Net} {l : Nat → Bool} (hs : ∀ c j, M.has c j = true → j < 512) : ∀ (cs : List UInt8) (S : Nat → Bool), (∀ i, S i = true → i < 512) →
    ((∃ q, runS M S cs q = true ∧ l q = true) ↔ ∃ p q, S p = true ∧ Pth (frE 0 M.beh) M.has p cs q ∧ l q = true)
  | [], S, hS => by
    constructor
    · rintro ⟨q, h, g⟩; exact ⟨q, q, h, .nil q, g⟩
    · rintro ⟨p, q, h, k, g⟩; cases k; exact ⟨p, h, g⟩
  | c :: cs, S, hS => by
    have hS' : ∀ i, andS (nxS M S) (M.has c.toNat) i = true → i < 512 := fun i h => by
      simp only [andS, Bool.and_eq_true] at h; exact hs _ _ h.2
    have ih := runS_pth (l := l) hs cs (andS (nxS M S) (M.has c.toNat)) hS'
    rw [runS, ih]
    constructor
    · rintro ⟨p, q, h, k, g⟩
      simp only [andS, Bool.and_eq_true] at h
      obtain ⟨i, hi, hp⟩ := List.any_eq_true.1 h.1
      simp only [Bool.and_eq_true] at hp
      exact ⟨i, q, hp.1, .cons (by simp [frE, hp.2]) h.2 k, g⟩
    · rintro ⟨p, q, h, k, g⟩
      cases k with
      | @cons _ r _ _ _ h1 h2 k =>
        simp only [frE, Nat.zero_le, decide_true, Bool.true_and] at h1
        exact ⟨r, q, by simp only [andS, Bool.and_eq_true]; exact ⟨List.any_eq_true.2 ⟨p, List.mem_range.2 (hS p h), by simp [h, h1]⟩, h2⟩, k, g⟩
/-- What is told of a pattern that may be is what it matches. -/
theorem matB_ok {t : RT} (hm : mayB t = true) (hn : sz t ≤ 512) (x : List UInt8) : matB t x = true ↔ Lg t x := by
  have h := lay_ok t N0 hm wfn0
  have hln := lay_n t N0
  have h0 : N0.n = 0 := rfl
  rw [h.acc (layN t N0).1.has (fun _ _ _ _ => rfl) x]
  cases x with
  | nil =>
    show (layN t N0).2.e = true ↔ _
    constructor
    · intro e; exact .inl ⟨rfl, e⟩
    · rintro (⟨_, e⟩ | ⟨c, x, p, q, e, _⟩)
      · exact e
      · cases e
  | cons c cs =>
    show nzS (andS (runS (layN t N0).1 (andS (layN t N0).2.f ((layN t N0).1.has c.toNat)) cs) (layN t N0).2.l) = true ↔ _
    have hs : ∀ c j, (layN t N0).1.has c j = true → j < 512 := fun c j e => by have := h.wf.hs c j e; omega
    have key := runS_pth (l := (layN t N0).2.l) hs cs (andS (layN t N0).2.f ((layN t N0).1.has c.toNat)) (fun i e => by simp only [andS, Bool.and_eq_true] at e; exact hs _ _ e.2)
    constructor
    · intro e
      obtain ⟨q, _, hq⟩ := List.any_eq_true.1 e
      simp only [andS, Bool.and_eq_true] at hq
      obtain ⟨p, q, hp, k, g⟩ := key.1 ⟨q, hq.1, hq.2⟩
      simp only [andS, Bool.and_eq_true] at hp
      exact .inr ⟨c, cs, p, q, rfl, hp.1, hp.2, k, g⟩
    · rintro (⟨e, _⟩ | ⟨c', x, p, q, e, hp, hd, k, g⟩)
      · cases e
      · cases e
        obtain ⟨q', h1, h2⟩ := key.2 ⟨p, q, by simp [andS, hp, hd], k, g⟩
        have := h.l q' h2
        exact List.any_eq_true.2 ⟨q', List.mem_range.2 (by omega), by simp [andS, h1, h2]⟩
end Go.Proofs.YthglciccejholaaDoor.R5
end
section
/- Package nfa. -/
namespace Go.Proofs.YthglciccejholaaDoor
set_option linter.unusedSimpArgs false
set_option linter.unusedVariables false
set_option maxRecDepth 100000
open Go.RowKit
/- A state's list is another one. -/
theorem flat_len : ∀ (xs : List (Array Value)), (∀ x ∈ xs, x.size = 7) → (flat xs).length = xs.length * 7
  | [], _ => rfl
  | x :: r, h => by
    have hx : x.size = 7 := h x (List.mem_cons_self ..)
    have hr := flat_len r (fun y hy => h y (List.mem_cons_of_mem _ hy))
    rw [flat, List.length_append, hr, List.length_cons]
    simp [hx]; omega
theorem flatz_len (zs : List Nq) : (flat (zs.map zC)).length = zs.length * 7 := by
  rw [flat_len _ (fun x hx => by obtain ⟨z, _, rfl⟩ := List.mem_map.1 hx; exact zC_size z), List.length_map]
theorem flatz_set (zs : List Nq) (i : Nat) (h : i < zs.length) (l : List Int) (p : Option Addr) (c : Nat) : (flat (zs.map zC)).set (i * 7 + 5) (.slice p l.length c) = flat ((zs.set i (⟨zs[i].1.u, zs[i].1.to, l, zs[i].1.rl⟩, p, c)).map zC) := by
  apply List.ext_getElem?
  intro k
  by_cases hk : k < zs.length * 7
  · have hi : k / 7 < zs.length := by omega
    have hj : k % 7 < 7 := Nat.mod_lt _ (by omega)
    have e : k = (k / 7) * 7 + k % 7 := by omega
    rw [List.getElem?_set]
    have h2 := flatz_get (zs.set i (⟨zs[i].1.u, zs[i].1.to, l, zs[i].1.rl⟩, p, c)) (k / 7) (by simpa using hi) (k % 7) hj
    have h1 := flatz_get zs (k / 7) hi (k % 7) hj
    rw [← e] at h1 h2
    rw [h1, h2, flatz_len, List.getElem_set]
    by_cases hik : i = k / 7
    · subst hik
      rw [if_pos rfl]
      by_cases hj5 : k % 7 = 5
      · rw [if_pos (by omega), if_pos (by omega), hj5]; rfl
      · rw [if_neg (by omega)]
        rcases (by omega : k % 7 = 0 ∨ k % 7 = 1 ∨ k % 7 = 2 ∨ k % 7 = 3 ∨ k % 7 = 4 ∨ k % 7 = 6) with h | h | h | h | h | h <;> rw [h] <;> rfl
    · rw [if_neg (by omega), if_neg hik]
  · rw [List.getElem?_eq_none (by rw [List.length_set, flatz_len]; omega), List.getElem?_eq_none (by rw [flatz_len, List.length_set]; omega)]
theorem BB.setFree {B : Nat} {P : Nat → Prop} {w0 y w7 : World} {bb : Nat} {zs : List Nq} {G cap i : Nat} {l : List Int} {p7 : Option Addr} {c7 : Nat} (h : BB B P w0 y bb zs (.slice (some ⟨G, 0, none⟩) zs.length cap)) (hi : i < zs.length) (o : Obj) (hl : l ≠ [])
    (hown : w7.ownsRow (y.heap.size + 1) 3 1 (.slice p7 l.length c7) l.length (l.map fun x => .int .i64 x)) (hg : (y.alloc o).grownBy w7 none) :
    BB B P w0 (w7.setCell ⟨G, i * 7 + 5, none⟩ (.slice p7 l.length c7)) bb (zs.set i (⟨zs[i].1.u, zs[i].1.to, l, zs[i].1.rl⟩, p7, c7)) (.slice (some ⟨G, 0, none⟩) zs.length cap) ∧ ∀ b, b < y.heap.size → b ≠ G → (w7.setCell ⟨G, i * 7 + 5, none⟩ (.slice p7 l.length c7)).heap[b]? = y.heap[b]? := by
  have hGl := World.ownsRow.lt h.ts.2 G rfl
  have hGb : G ≠ bb := fun e => h.sb (by simp [Value.ownBlock, e])
  have hya : (y.alloc o).heap.size = y.heap.size + 1 := by simp
  have hgs := hg.size
  have hk : ∀ b, b < y.heap.size → w7.heap[b]? = y.heap[b]? := fun b hb => (hg.block b (by omega) (by simp)).trans (heap_alloc_old y o hb)
  have hk8 : ∀ b, b < y.heap.size → b ≠ G → (w7.setCell ⟨G, i * 7 + 5, none⟩ (.slice p7 l.length c7)).heap[b]? = y.heap[b]? := fun b hb hne => (heap_setCell_other w7 ⟨G, i * 7 + 5, none⟩ b _ hne).trans (hk b hb)
  have hbb := (Array.getElem?_eq_some_iff.1 h.f).1
  have hsz := h.sz
  have hbel7 : Below B w0 w7 := ⟨hg.os.trans h.bel.os, hg.tape.trans h.bel.tape, hg.output.trans h.bel.output, by have := h.bel.size; omega, fun b hb => (hk b (by omega)).trans (h.bel.block b hb)⟩
  have hrow7 := World.ownsRow.kept (World.ownsRow.alloc h.ts.2 o) hg (.inr (by simp [Value.ownBlock]))
  have hrow8 := (World.ownsRow.stored hrow7 (i * 7 + 5) (.slice p7 l.length c7)).1
  rw [flatz_set zs i hi l p7 c7] at hrow8
  have hlen : (zs.set i (⟨zs[i].1.u, zs[i].1.to, l, zs[i].1.rl⟩, p7, c7)).length = zs.length := List.length_set
  obtain ⟨g7, cap7, cur7, he7, hb7, hh7, _, _, hcs7, htk7⟩ : ∃ g cap cur, Value.slice p7 l.length c7 = .slice (some ⟨g, 0, none⟩) l.length cap ∧ y.heap.size + 1 ≤ g ∧ w7.heap[g]? = some (.cells cur 3 (0, 0)) ∧ l.length ≤ cap ∧ cap ≤ maxLen ∧ cur.size = cap * 1 ∧ cur.toList.take (l.length * 1) = (l.map fun x => .int .i64 x) := by
    rcases hown.2 with ⟨_, h0⟩ | h
    · exact absurd (List.length_eq_zero_iff.1 h0) hl
    · exact h
  cases he7
  have hg7 := (Array.getElem?_eq_some_iff.1 hh7).1
  refine ⟨⟨hbel7.setCell (p := ⟨G, i * 7 + 5, none⟩) hGl.1 _, (hk8 bb hbb (fun e => hGb e.symm)).trans h.f, ⟨fun k hkl => ?_, ?_⟩, h.hb, h.sb, by simp; omega, fun b hp => ⟨by have := (h.pr b hp).1; simp; omega, (h.pr b hp).2⟩⟩, hk8⟩
  · rw [List.getElem_set]
    by_cases hik : i = k
    · subst hik
      rw [if_pos rfl]
      refine ⟨_, _, rfl, fun _ => ⟨g7, 0, rfl, ⟨by omega, by simpa using hg7, fun e => by simp [Value.ownBlock] at e; omega, by omega, fun hp => by have := (h.pr _ hp).1; omega⟩, fun j hj => ?_, _, _, (heap_setCell_other w7 ⟨G, i * 7 + 5, none⟩ g7 _ (by show g7 ≠ G; omega)).trans hh7⟩⟩
      have hgG : g7 ≠ G := by omega
      rw [cell_same (heap_setCell_other w7 ⟨G, i * 7 + 5, none⟩ g7 _ hgG) _, cell_of_row w7 g7 _ _ 3 (0, 0) hh7, Nat.zero_add]
      have e := congrArg (fun x : List Value => x[j]?) htk7
      have hj' : j < l.length := hj
      simp only [Nat.mul_one, List.getElem?_take, if_pos hj', Array.getElem?_toList, List.getElem?_map, List.getElem?_eq_getElem hj', Option.map_some] at e
      exact e
    · rw [if_neg hik]
      have hkl' : k < zs.length := by rw [hlen] at hkl; exact hkl
      exact (h.ts.1 k hkl').mono (fun b hb => ⟨hb.1, by simp; omega, hb.2.2⟩) (fun b hb _ => hk8 b hb.2.1 (fun e => hb.2.2.1 (by simp [Value.ownBlock, e])))
  · rw [hlen]; exact hrow8
end Go.Proofs.YthglciccejholaaDoor
end
section
/- Package nfa. -/
namespace Go.Proofs.YthglciccejholaaDoor
set_option linter.unusedSimpArgs false
set_option linter.unusedVariables false
set_option maxRecDepth 100000
open Go.RowKit
/- What is laid of a star of a set. -/
end Go.Proofs.YthglciccejholaaDoor
end
section
/- Package nfa. -/
namespace Go.Proofs.YthglciccejholaaDoor
set_option linter.unusedSimpArgs false
set_option linter.unusedVariables false
set_option maxRecDepth 100000
open Go.RowKit
/- matchesSome of a set, of a star; refused, where every pattern may be. -/
set_option maxHeartbeats 4000000 in
theorem some_set (u : Nat → Int) (p : Option Addr) (n c : Nat) (w : World) : Calls Tryd.prog 75 #[.agg (nodeC 2 u (.slice p n c))] w fun e w' => e = .returned (.bool (!zeroU u)) ∧ Below w.heap.size w w' := by
  have hnq := neq24g u
  have S0 := Lib.hid (((Below.refl w.heap.size w).alloc (Nat.le_refl _) (.cells (nodeC 2 u (.slice p n c)) 27)))
  generalize zeroU u = zb at *
  unfold nodeC at *
  go_enter Tryd.func75, Tryd.ntmps75
  go_wp2_with fail
  go_ret
  exact ⟨rfl, S0.out⟩
set_option maxHeartbeats 4000000 in
theorem some_star (u : Nat → Int) (p : Option Addr) (n c : Nat) (w : World) : Calls Tryd.prog 75 #[.agg (nodeC 5 u (.slice p n c))] w fun e w' => e = .returned (.bool true) ∧ Below w.heap.size w w' := by
  have S0 := Lib.hid (((Below.refl w.heap.size w).alloc (Nat.le_refl _) (.cells (nodeC 5 u (.slice p n c)) 27)))
  unfold nodeC at *
  go_enter Tryd.func75, Tryd.ntmps75
  go_wp2_with fail
  go_ret
  exact ⟨rfl, S0.out⟩
set_option maxHeartbeats 4000000 in
theorem some_none (u : Nat → Int) (p : Option Addr) (n c : Nat) (w : World) : Calls Tryd.prog 75 #[.agg (nodeC 0 u (.slice p n c))] w fun e w' => e = .returned (.bool false) ∧ Below w.heap.size w w' := by
  have S0 := Lib.hid (((Below.refl w.heap.size w).alloc (Nat.le_refl _) (.cells (nodeC 0 u (.slice p n c)) 27)))
  unfold nodeC at *
  go_enter Tryd.func75, Tryd.ntmps75
  go_wp2_with fail
  go_ret
  exact ⟨rfl, S0.out⟩
end Go.Proofs.YthglciccejholaaDoor
end
