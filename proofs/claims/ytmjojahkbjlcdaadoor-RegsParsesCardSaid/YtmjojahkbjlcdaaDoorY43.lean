/- Texts of package regs, one behind the other. -/
import Derived.Lib.Slices
import Derived.Lib.Strings
import Derived.Test.YtmjojahkbjlcdaaDoorProg
import Derived.Test.YtmjojahkbjlcdaaDoorY3
import Derived.Test.YtmjojahkbjlcdaaDoorY4
import Derived.WalkKit
import Derived.WalkLawsBesides
import Derived.WalkSpells
import Derived.Outline
import Derived.Lib.Walk
import Derived.Lib.Hide
import Derived.RegionTactic
import Derived.LoopTactic
import Derived.Below
import Derived.IntWalk
import Derived.Deep.QuietTactic
import Derived.BigQuiet
import Derived.Test.YtmjojahkbjlcdaaDoorY33
import Derived.Test.YtmjojahkbjlcdaaDoorG49
import Derived.Test.YtmjojahkbjlcdaaDoorG35
import Derived.Test.YtmjojahkbjlcdaaDoorY28
section
namespace Go.Proofs.YtmjojahkbjlcdaaDoor
set_option linter.unusedSimpArgs false
set_option linter.unusedVariables false
set_option maxRecDepth 100000
open Go.RowKit

/- The document's choice. -/
theorem balt (p : Option Addr) (n c : Nat) : Tryd.prog.built 27 [(0, .int .i64 4), (2, .slice p n c)] = some (nodeC 4 u0 (.slice p n c)) := by kernel_rfl
theorem wpList_balt {ops : Array Oper} {rest : List Oper} {o : Oper} {a : Act} {w : World} {Q : Exit → Act → World → Prop} {x y : Operand} {p : Option Addr} {n c : Nat} (hg : o.guard = none) (ho : o.op = .build 27 #[(0, x), (2, y)]) (hx : a.eval x = .int .i64 4) (hy : a.eval y = .slice p n c)
    (h : wpList Tryd.prog ops Q rest (a.put o.dst (.agg (nodeC 4 u0 (.slice p n c)))) w) : wpList Tryd.prog ops Q (o :: rest) a w := by
  refine wpList_build hg 27 _ ho ?_ ?_
  · simp [hx, hy, balt]
  · simp [hx, hy, balt]; exact h
theorem putA_R (k : Int) (u : Nat → Int) (p : Option Addr) (n c : Nat) (k' : Int) (u' : Nat → Int) (p' : Option Addr) (n' c' : Nat) (m : Int) (b : Bool) : putA (readC k u (.slice p n c) m b) 0 (nodeC k' u' (.slice p' n' c')).toList = readC k' u' (.slice p' n' c') m b := rfl
def at6 (b : Nat) (w : World) : Nat := match w.cell? ⟨b, 6, none⟩ with | some (.int _ n) => n.toNat | _ => 0
set_option maxHeartbeats 2000000 in
theorem choiced_e {s : ByteArray} {w : World} (q0 t : List UInt8) (hR : Hid (∀ w, Calls Tryd.prog 49 #[.string s, .int .i64 ((s.size - q0.length : Nat) : Int)] w (RdP s w (.error t)))) :
    Calls Tryd.prog 38 #[.string s, .int .i64 ((s.size - q0.length : Nat) : Int)] w (RdP s w (.error t)) := by
  obtain ⟨m0, hm0⟩ : ∃ m0, s.size - q0.length = m0 := ⟨_, rfl⟩
  rw [hm0] at hR ⊢
  clear hm0
  have hz := zero53
  have HA := Lib.hid ((Sb.start w).alloc (.cells (readC 0 u0 (.slice none 0 0) 0 false) 53))
  go_enter Tryd.func38, Tryd.ntmps38
  go_wp2_with fail
  refine (hR.out _).mono ?_
  rintro _ w5 ⟨hb, hsuf, rfl⟩
  have HSU := Lib.hid hsuf
  obtain ⟨m, hm⟩ : ∃ m, s.size - t.length = m := ⟨_, rfl⟩
  rw [hm]
  have HM := Lib.hid hm
  have HA2 := Lib.hid (HA.out.up hb)
  clear hb HA hR hsuf hm
  have HA := HA2
  clear HA2
  have HF0 := Lib.hid (HA.out.alloc (.cells (readC 0 u0 (.slice none 0 0) 0 false) 53))
  have h7 := Lib.hid HF0.out.heap
  have HF1 := Lib.hid (HF0.out.setRow (cs' := (readC 0 u0 (.slice none 0 0) (m : Nat) true)) (by intro c hc; have z := HA.out.lt; simp at hc; subst hc; simp at z ⊢; omega))
  go_upto_region 2 with (refine wpList_store_row rfl 53 (.tmp 5) (.tmp 9) rfl w5.heap.size (readC 0 u0 (.slice none 0 0) (m : Nat) true) rfl rfl 53 _ h7.out size53 rfl (readC_one _ _ _ _ _ _ _) ?_)
  have hbw : w.heap.size < w5.heap.size := HA.out.lt
  generalize w5.heap.size = b6 at *
  refine at_world (fun y => Sb w y [(b6, .cells (readC 0 u0 (.slice none 0 0) (m : Nat) true) 53), (w.heap.size, .cells (readC 0 u0 (.slice none 0 0) 0 false) 53)]) HF1.out fun y hy => ?_
  have HS := Lib.hid hy
  clear hy HF0 HF1 h7 HA
  have e0 : y.cell? ⟨b6, 0, none⟩ = some (.int .i64 0) := HS.out.cell 0
  have e1 : y.cell? ⟨b6, 1, none⟩ = some (.int .u64 (u0 0)) := HS.out.cell 1
  have e2 : y.cell? ⟨b6, 2, none⟩ = some (.int .u64 (u0 1)) := HS.out.cell 2
  have e3 : y.cell? ⟨b6, 3, none⟩ = some (.int .u64 (u0 2)) := HS.out.cell 3
  have e4 : y.cell? ⟨b6, 4, none⟩ = some (.int .u64 (u0 3)) := HS.out.cell 4
  have e5 : y.cell? ⟨b6, 5, none⟩ = some (.slice none 0 0) := HS.out.cell 5
  have e6 : y.cell? ⟨b6, 6, none⟩ = some (.int .i64 ((m : Nat))) := HS.out.cell 6
  have e7 : y.cell? ⟨b6, 7, none⟩ = some (.bool true) := HS.out.cell 7
  have h6 := Lib.hid HS.out.heap
  have HT := Lib.hid HS.out.tl
  have HY := Lib.hid HT.out.heap
  go_wp2_with (first | (refine wpList_load_row rfl 53 (.tmp 5) rfl b6 rfl 53 (readC 0 u0 (.slice none 0 0) (m : Nat) true) (0, 0) _ h6.out Tryd.underlying53 rfl size53 ?_) | (refine wpList_store_row rfl 53 (.tmp 4) (.tmp 12) rfl w.heap.size (readC 0 u0 (.slice none 0 0) (m : Nat) true) rfl rfl 53 _ HY.out size53 rfl (readC_one _ _ _ _ _ _ _) ?_))
  (try simp only [Exit.inBlock, Exit.then])
  exact bodyPost_ret (v := .agg (readC 0 u0 (.slice none 0 0) (m : Nat) true)) (results_cell_row rfl _ _ w.heap.size 53 _ (0, 0) _ rfl (setRow_heap _ w.heap.size _ _ 53 (0, 0) HY.out) Tryd.underlying53 rfl size53) rfl ⟨below_row HT.out.1 (Nat.le_refl _) _, HSU.out, by rw [HM.out]⟩
set_option maxHeartbeats 8000000 in
theorem choiced_o {s : ByteArray} {w : World} (ch : List UInt8 → Except (List UInt8) (RT × List UInt8)) (hs : s.size ≤ 1000) (q0 q1 : List UInt8) (t0 : RT) (h0 : Suf s q0) (hle : q1.length ≤ q0.length) (hon : Ons ch)
    (hR : Hid (∀ w, Calls Tryd.prog 49 #[.string s, .int .i64 ((s.size - q0.length : Nat) : Int)] w (RdP s w (.ok (t0, q1)))))
    (hRW : Hid (∀ q w, q.length ≤ q0.length → Suf s q → Calls Tryd.prog 49 #[.string s, .int .i64 ((s.size - q.length : Nat) : Int)] w (RdP s w (rowF ch q)))) :
    Calls Tryd.prog 38 #[.string s, .int .i64 ((s.size - q0.length : Nat) : Int)] w (RdP s w (match alts ch (q1.length + 1) [t0] q1 with | .error q => .error q | .ok (ts, r) => .ok (joinT 4 ts, r))) := by
  obtain ⟨i0, hi, hz0, hz1, hz2⟩ := info_parts infoN
  obtain ⟨R, hRR⟩ : ∃ R, alts ch (q1.length + 1) [t0] q1 = R := ⟨_, rfl⟩
  rw [hRR]
  have HRR := Lib.hid hRR
  have hq0 := h0.len
  have HON := Lib.hid hon
  clear hRR hon
  obtain ⟨m0, hm0⟩ : ∃ m0, s.size - q0.length = m0 := ⟨_, rfl⟩
  rw [hm0] at hR ⊢
  clear hm0
  have hz := zero53
  have hz2' := zero27r
  have HA := Lib.hid ((Sb.start w).alloc (.cells (readC 0 u0 (.slice none 0 0) 0 false) 53))
  go_enter Tryd.func38, Tryd.ntmps38
  go_wp2_with fail
  refine (hR.out _).mono ?_
  rintro _ w5 ⟨hb, hsuf, kx, ux, px, nx, cx, rfl, hv⟩
  have HSU := Lib.hid hsuf
  obtain ⟨m, hm⟩ : ∃ m, s.size - q1.length = m := ⟨_, rfl⟩
  rw [hm]
  have HM := Lib.hid hm
  have HA2 := Lib.hid (HA.out.up hb)
  have hv2 : RV (fun b => w.heap.size + 1 ≤ b ∧ b < w5.heap.size) ((w5.alloc (.cells (readC 0 u0 (.slice none 0 0) 0 false) 53)).setRow w5.heap.size (readC kx ux (.slice px nx cx) (m : Nat) false)) t0 (.agg (nodeC kx ux (.slice px nx cx))) := RV.mono (fun b h => ⟨by have := h.1; simpa using this, h.2⟩) (fun b h _ => (setRow_other _ w5.heap.size b _ (by have := h.2; omega)).trans (((Below.refl w5.heap.size w5).alloc (Nat.le_refl _) _).block b h.2)) hv
  have HV := Lib.hid hv2
  clear hb HA hR hsuf hm hv hv2
  have HA := HA2
  clear HA2
  have HF0 := Lib.hid (HA.out.alloc (.cells (readC 0 u0 (.slice none 0 0) 0 false) 53))
  have h7 := Lib.hid HF0.out.heap
  have HF1 := Lib.hid (HF0.out.setRow (cs' := (readC kx ux (.slice px nx cx) (m : Nat) false)) (by intro c hc; have z := HA.out.lt; simp at hc; subst hc; simp at z ⊢; omega))
  go_upto_region 2 with (refine wpList_store_row rfl 53 (.tmp 5) (.tmp 9) rfl w5.heap.size (readC kx ux (.slice px nx cx) (m : Nat) false) rfl rfl 53 _ h7.out size53 rfl (readC_one _ _ _ _ _ _ _) ?_)
  have hbw : w.heap.size < w5.heap.size := HA.out.lt
  have hsz5 : ((w5.alloc (.cells (readC 0 u0 (.slice none 0 0) 0 false) 53)).setRow w5.heap.size (readC kx ux (.slice px nx cx) (m : Nat) false)).heap.size = w5.heap.size + 1 := by simp
  obtain ⟨b6, hb6⟩ : ∃ b6, w5.heap.size = b6 := ⟨_, rfl⟩
  simp only [hb6] at *
  refine at_world (fun y => Sb w y [(b6, .cells (readC kx ux (.slice px nx cx) (m : Nat) false) 53), (w.heap.size, .cells (readC 0 u0 (.slice none 0 0) 0 false) 53)] ∧ RV (fun b => w.heap.size + 1 ≤ b ∧ b < b6) y t0 (.agg (nodeC kx ux (.slice px nx cx))) ∧ y.heap.size = b6 + 1) ⟨HF1.out, HV.out, hsz5⟩ fun y hy => ?_
  have HS := Lib.hid hy.1
  have HVY := Lib.hid hy.2.1
  have hys := hy.2.2
  clear hy HF0 HF1 h7 HA HV hsz5 hb6
  have e0 : y.cell? ⟨b6, 0, none⟩ = some (.int .i64 kx) := HS.out.cell 0
  have e1 : y.cell? ⟨b6, 1, none⟩ = some (.int .u64 (ux 0)) := HS.out.cell 1
  have e2 : y.cell? ⟨b6, 2, none⟩ = some (.int .u64 (ux 1)) := HS.out.cell 2
  have e3 : y.cell? ⟨b6, 3, none⟩ = some (.int .u64 (ux 2)) := HS.out.cell 3
  have e4 : y.cell? ⟨b6, 4, none⟩ = some (.int .u64 (ux 3)) := HS.out.cell 4
  have e5 : y.cell? ⟨b6, 5, none⟩ = some (.slice px nx cx) := HS.out.cell 5
  have e6 : y.cell? ⟨b6, 6, none⟩ = some (.int .i64 ((m : Nat))) := HS.out.cell 6
  have e7 : y.cell? ⟨b6, 7, none⟩ = some (.bool false) := HS.out.cell 7
  have HT1 : Hid (Thx b6 (w.heap.size + 1) [t0] (.slice (some ⟨y.heap.size, 0, none⟩) 1 1) (y.alloc (.cells (nodeC kx ux (.slice px nx cx)) 27))) := Lib.hid (Thx.single (by omega) (by omega) (HVY.out.mono (fun b h => ⟨h.1, by omega, by omega⟩) (fun b h _ => rfl)))
  have HS1 := Lib.hid (HS.out.up ((Below.refl y.heap.size y).alloc (Nat.le_refl _) (.cells (nodeC kx ux (.slice px nx cx)) 27)))
  have HV1 : Hid (∀ t, [t0] = [t] → RV (fun b => w.heap.size + 1 ≤ b ∧ b < (y.alloc (.cells (nodeC kx ux (.slice px nx cx)) 27)).heap.size ∧ b ≠ b6) (y.alloc (.cells (nodeC kx ux (.slice px nx cx)) 27)) t (.agg (nodeC kx ux (.slice px nx cx)))) := Lib.hid fun t ht => by cases ht; exact HVY.out.mono (fun b h => ⟨h.1, by simp; omega, by omega⟩) (fun b h _ => ((Below.refl y.heap.size y).alloc (Nat.le_refl _) _).block b (by omega))
  clear HVY
  unfold nodeC at HT1 HS1 HV1
  have hbl : w.heap.size < b6 := by omega
  clear hys
  go_wp2_with fail
  go_loopw [6] (fun sl wr => ∃ (ts : List RT) (q : List UInt8) (k : Nat) (kx : Int) (ux : Nat → Int) (px : Option Addr) (nx cx m : Nat), Hid (alts ch k ts q = R) ∧ Hid (Thx b6 (w.heap.size + 1) ts sl wr) ∧ Hid (Sb w wr [(b6, .cells (readC kx ux (.slice px nx cx) (m : Nat) false) 53), (w.heap.size, .cells (readC 0 u0 (.slice none 0 0) 0 false) 53)]) ∧ Hid (Suf s q) ∧ Hid (s.size - q.length = m) ∧ q.length < k ∧ ts ≠ [] ∧ ts.length + q.length ≤ 1 + q0.length ∧ Hid (∀ t, ts = [t] → RV (fun b => w.heap.size + 1 ≤ b ∧ b < wr.heap.size ∧ b ≠ b6) wr t (.agg (nodeC kx ux (.slice px nx cx))))) (fun _ wr => s.size - at6 b6 wr)
  case atStart => exact ⟨[t0], q1, q1.length + 1, kx, ux, px, nx, cx, m, HRR, HT1, HS1, HSU, HM, by omega, by simp, by simp; omega, HV1⟩
  case round =>
    clear HRR HT1 HS1 HSU HM HV1 HS e0 e1 e2 e3 e4 e5 e6 e7
    obtain ⟨ts, q, k, kx, ux, px, nx, cx, m, HC, HT, HS, HSU, HM, hk, hnn, hlen, HV⟩ := hrel
    obtain ⟨wo, rfl⟩ : ∃ wo : World, wo = wr := ⟨_, rfl⟩
    obtain ⟨k, rfl⟩ : ∃ j, k = j + 1 := ⟨k - 1, by omega⟩
    have e0 : wo.cell? ⟨b6, 0, none⟩ = some (.int .i64 kx) := HS.out.cell 0
    have e1 : wo.cell? ⟨b6, 1, none⟩ = some (.int .u64 (ux 0)) := HS.out.cell 1
    have e2 : wo.cell? ⟨b6, 2, none⟩ = some (.int .u64 (ux 1)) := HS.out.cell 2
    have e3 : wo.cell? ⟨b6, 3, none⟩ = some (.int .u64 (ux 2)) := HS.out.cell 3
    have e4 : wo.cell? ⟨b6, 4, none⟩ = some (.int .u64 (ux 3)) := HS.out.cell 4
    have e5 : wo.cell? ⟨b6, 5, none⟩ = some (.slice px nx cx) := HS.out.cell 5
    have e6 : wo.cell? ⟨b6, 6, none⟩ = some (.int .i64 ((m : Nat))) := HS.out.cell 6
    have e7 : wo.cell? ⟨b6, 7, none⟩ = some (.bool false) := HS.out.cell 7
    have hat : at6 b6 wo = m := by unfold at6; rw [e6]; rfl
    have hbo : b6 < wo.heap.size := HS.out.lt
    by_cases hc : q.head? = some 124
    · obtain ⟨r, rfl⟩ : ∃ r, q = 124 :: r := by
        cases q with
        | nil => simp at hc
        | cons c r => simp at hc; exact ⟨r, by rw [hc]⟩
      have hlt := HSU.out.lt
      have hg0 := HSU.out.get hlt
      have hnx := HSU.out.next
      rw [HM.out] at hlt hnx
      have hg : ∀ h, s[m]'h = 124 := by have e := HM.out; intro h; subst e; exact hg0
      have hlt' : (m : Int) < (s.size : Int) := by omega
      have HTL := Lib.hid HSU.out.tl
      have HRq := Lib.hid fun w => hRW.out r w (by simp at hlen; have : 0 < ts.length := List.length_pos_iff.2 hnn; omega) HTL.out
      rw [← hnx] at HRq
      rw [show ((m + 1 : Nat) : Int) = (m : Int) + 1 from rfl] at HRq
      clear hg0 hc
      cases hth : rowF ch r with
      | error t =>
        have hr : Except.error t = R := by rw [← HC.out, alts, List.head?_cons, if_pos rfl, List.tail_cons, hth]
        subst hr
        rw [hth] at HRq
        clear HC hk hth
        go_wp2_with fail
        refine (HRq.out _).mono ?_
        rintro _ w6 ⟨hb, hsuf, rfl⟩
        have HS6 := Lib.hid (HS.out.up hb)
        have HSF := Lib.hid hsuf
        obtain ⟨m2, hm2⟩ : ∃ m2, s.size - t.length = m2 := ⟨_, rfl⟩
        rw [hm2]
        have HM2 := Lib.hid hm2
        have h5 := Lib.hid HS6.out.heap
        have HE := Lib.hid (HS6.out.setRow (cs' := (readC 0 u0 (.slice none 0 0) (m2 : Nat) true)) (by intro c hc; simp at hc; subst hc; simp; omega))
        clear hb hsuf hm2 HS HT HV HRq e0 e1 e2 e3 e4 e5 e6 e7
        go_upto_region 7 with (refine wpList_store_row rfl 53 (.tmp 5) (.tmp 32) rfl b6 (readC 0 u0 (.slice none 0 0) (m2 : Nat) true) rfl rfl 53 _ h5.out size53 rfl (readC_one _ _ _ _ _ _ _) ?_)
        refine at_world (fun y => Sb w y [(b6, .cells (readC 0 u0 (.slice none 0 0) (m2 : Nat) true) 53), (w.heap.size, .cells (readC 0 u0 (.slice none 0 0) 0 false) 53)]) HE.out fun y2 hy2 => ?_
        have HS7 := Lib.hid hy2
        clear hy2 HE HS6 h5
        have e0 : y2.cell? ⟨b6, 0, none⟩ = some (.int .i64 0) := HS7.out.cell 0
        have e1 : y2.cell? ⟨b6, 1, none⟩ = some (.int .u64 (u0 0)) := HS7.out.cell 1
        have e2 : y2.cell? ⟨b6, 2, none⟩ = some (.int .u64 (u0 1)) := HS7.out.cell 2
        have e3 : y2.cell? ⟨b6, 3, none⟩ = some (.int .u64 (u0 2)) := HS7.out.cell 3
        have e4 : y2.cell? ⟨b6, 4, none⟩ = some (.int .u64 (u0 3)) := HS7.out.cell 4
        have e5 : y2.cell? ⟨b6, 5, none⟩ = some (.slice none 0 0) := HS7.out.cell 5
        have e6 : y2.cell? ⟨b6, 6, none⟩ = some (.int .i64 ((m2 : Nat))) := HS7.out.cell 6
        have e7 : y2.cell? ⟨b6, 7, none⟩ = some (.bool true) := HS7.out.cell 7
        have h6 := Lib.hid HS7.out.heap
        have HT9 := Lib.hid HS7.out.tl
        have HY := Lib.hid HT9.out.heap
        go_wp2_with (first | (refine wpList_load_row rfl 53 (.tmp 5) rfl b6 rfl 53 (readC 0 u0 (.slice none 0 0) (m2 : Nat) true) (0, 0) _ h6.out Tryd.underlying53 rfl size53 ?_) | (refine wpList_store_row rfl 53 (.tmp 4) (.tmp 35) rfl w.heap.size (readC 0 u0 (.slice none 0 0) (m2 : Nat) true) rfl rfl 53 _ HY.out size53 rfl (readC_one _ _ _ _ _ _ _) ?_))
        (try simp only [Exit.inBlock, Exit.then])
        exact bodyPost_ret (v := .agg (readC 0 u0 (.slice none 0 0) (m2 : Nat) true)) (results_cell_row rfl _ _ w.heap.size 53 _ (0, 0) _ rfl (setRow_heap _ w.heap.size _ _ 53 (0, 0) HY.out) Tryd.underlying53 rfl size53) rfl ⟨below_row HT9.out.1 (Nat.le_refl _) _, HSF.out, by rw [HM2.out]⟩
      | ok v =>
        obtain ⟨t, r'⟩ := v
        have HC2 : Hid (alts ch k (ts ++ [t]) r' = R) := Lib.hid (by rw [← HC.out, alts, List.head?_cons, if_pos rfl, List.tail_cons, hth])
        have hlr := rowF_le HON.out hth
        rw [hth] at HRq
        clear HC hth
        go_wp2_with fail
        refine (HRq.out _).mono ?_
        rintro _ w6 ⟨hb, hsuf, k2, u2, p2, n2, c2, rfl, hv⟩
        have HSF := Lib.hid hsuf
        obtain ⟨m2, hm2⟩ : ∃ m2, s.size - r'.length = m2 := ⟨_, rfl⟩
        rw [hm2]
        have hlf := hsuf.len
        have hmm : m < m2 := by omega
        have HM2 := Lib.hid hm2
        have hs6 := hb.size
        have HS6 := Lib.hid (HS.out.up hb)
        have h5 := Lib.hid HS6.out.heap
        have HE := Lib.hid (HS6.out.setRow (cs' := (readC k2 u2 (.slice p2 n2 c2) (m2 : Nat) false)) (by intro c hc; simp at hc; subst hc; simp; omega))
        have HT6 := Lib.hid ((HT.out.up hb).row (readC k2 u2 (.slice p2 n2 c2) (m2 : Nat) false))
        have hv2 : RV (fun b => wo.heap.size ≤ b ∧ b < w6.heap.size) (w6.setRow b6 (readC k2 u2 (.slice p2 n2 c2) (m2 : Nat) false)) t (.agg (nodeC k2 u2 (.slice p2 n2 c2))) := RV.mono (fun b h => h) (fun b h _ => setRow_other w6 b6 b _ (by have := h.1; omega)) hv
        have HV6 := Lib.hid hv2
        have hlo1 := Lib.hid fun g (hg : u6.ownBlock = some g) => (by obtain ⟨xs, _, _, _, h4, _⟩ := HT.out; exact (World.ownsRow.lt h4 g hg).2 : g < wo.heap.size)
        have hs7 : (w6.setRow b6 (readC k2 u2 (.slice p2 n2 c2) (m2 : Nat) false)).heap.size = w6.heap.size := by simp
        clear hb hsuf hm2 hv hv2 HS HT HV HRq e0 e1 e2 e3 e4 e5 e6 e7
        go_upto_region 7 with (refine wpList_store_row rfl 53 (.tmp 5) (.tmp 32) rfl b6 (readC k2 u2 (.slice p2 n2 c2) (m2 : Nat) false) rfl rfl 53 _ h5.out size53 rfl (readC_one _ _ _ _ _ _ _) ?_)
        refine at_world (fun y => Sb w y [(b6, .cells (readC k2 u2 (.slice p2 n2 c2) (m2 : Nat) false) 53), (w.heap.size, .cells (readC 0 u0 (.slice none 0 0) 0 false) 53)] ∧ Thx b6 (w.heap.size + 1) ts u6 y ∧ RV (fun b => wo.heap.size ≤ b ∧ b < w6.heap.size) y t (.agg (nodeC k2 u2 (.slice p2 n2 c2))) ∧ y.heap.size = w6.heap.size) ⟨HE.out, HT6.out, HV6.out, hs7⟩ fun y2 hy2 => ?_
        have HS7 := Lib.hid hy2.1
        have HT7 := Lib.hid hy2.2.1
        have HV7 := Lib.hid hy2.2.2.1
        have HZ7 := Lib.hid hy2.2.2.2
        clear hy2 HE HT6 HV6 HS6 h5 hs7
        have e0 : y2.cell? ⟨b6, 0, none⟩ = some (.int .i64 k2) := HS7.out.cell 0
        have e1 : y2.cell? ⟨b6, 1, none⟩ = some (.int .u64 (u2 0)) := HS7.out.cell 1
        have e2 : y2.cell? ⟨b6, 2, none⟩ = some (.int .u64 (u2 1)) := HS7.out.cell 2
        have e3 : y2.cell? ⟨b6, 3, none⟩ = some (.int .u64 (u2 2)) := HS7.out.cell 3
        have e4 : y2.cell? ⟨b6, 4, none⟩ = some (.int .u64 (u2 3)) := HS7.out.cell 4
        have e5 : y2.cell? ⟨b6, 5, none⟩ = some (.slice p2 n2 c2) := HS7.out.cell 5
        have e6 : y2.cell? ⟨b6, 6, none⟩ = some (.int .i64 ((m2 : Nat))) := HS7.out.cell 6
        have e7 : y2.cell? ⟨b6, 7, none⟩ = some (.bool false) := HS7.out.cell 7
        obtain ⟨xs, x1, x2, x3, x4, x5⟩ := HT7.out
        have X3 := Lib.hid x3
        have X5 := Lib.hid x5
        have X4 := Lib.hid (World.ownsRow.alloc x4 (.cells #[.int .i64 k2, .int .u64 (u2 0), .int .u64 (u2 1), .int .u64 (u2 2), .int .u64 (u2 3), .slice p2 n2 c2] 27))
        have hc0 : ∀ j u, ((nodeC k2 u2 (.slice p2 n2 c2))).toList[j]? = some u → (y2.alloc (.cells #[.int .i64 k2, .int .u64 (u2 0), .int .u64 (u2 1), .int .u64 (u2 2), .int .u64 (u2 3), .slice p2 n2 c2] 27)).cell? ((⟨y2.heap.size, 0, none⟩ : Addr).add j) = some u := fun j u hj => by
          rw [Addr.add_mid, cell_of_row _ y2.heap.size (0 + j) _ 27 (0, 0) (heap_alloc_last y2 _), Nat.zero_add]
          rw [Array.getElem?_toList] at hj; exact hj
        have HC0 := Lib.hid hc0
        have hlen2 : ts.length ≤ 1001 := by omega
        have HYA := Lib.hid (show (y2.alloc (.cells #[.int .i64 k2, .int .u64 (u2 0), .int .u64 (u2 1), .int .u64 (u2 2), .int .u64 (u2 3), .slice p2 n2 c2] 27)).heap.size = y2.heap.size + 1 by simp)
        clear hc0 x3 x4 x5
        go_wp2_with (at_builtin; refine wpList_append_own_at _ rfl (.tmp 36) (.tmp 39) 25 rfl (w.heap.size + 1) 27 i0 (.agg (nodeC 0 u0 (.slice none 0 0))) 6 64 Tryd.underlying25 hi hz0 hz1 hz2 rfl (by decide) u6 ts.length (flat xs) rfl ?c0 ⟨y2.heap.size, 0, none⟩ 1 1 ((nodeC k2 u2 (.slice p2 n2 c2))).toList rfl rfl ?c1 ?c2 ?c3 ?c4 ?c5 ?_)
        case c0 => exact X4.out
        case c1 => exact HC0.out
        case c2 => exact fun u hu => (Array.all_eq_true_iff_forall_mem.1 (nodeC_one k2 u2 p2 n2 c2)) u (by simpa using hu)
        case c3 => unfold maxLen; omega
        case c4 => have := HZ7.out; have := HYA.out; first | omega | (simp; omega)
        case c5 => have z1 := HZ7.out; have z2 := HYA.out; simp; omega
        intro v' w7 hown7 hgrow7 _ hat7
        have hya := HYA.out
        have hz7 := HZ7.out
        have hbase := fun g (hg : u6.ownBlock = some g) => (World.ownsRow.lt X4.out g hg).1
        have HTA : Hid (Thx b6 (w.heap.size + 1) (ts ++ [t]) v' w7) := Lib.hid (Thx.app (y := (nodeC k2 u2 (.slice p2 n2 c2))) (xs := xs) (lo := wo.heap.size) rfl x1 x2 X3.out rfl (by omega) hlo1.out hbo X5.out (by omega) (HV7.out.mono (fun b h => ⟨h.1, by omega⟩) (fun b h _ => rfl)) hown7 hgrow7 (by rw [hya]; exact hat7))
        have HSA : Hid (Sb w w7 [(b6, .cells (readC k2 u2 (.slice p2 n2 c2) (m2 : Nat) false) 53), (w.heap.size, .cells (readC 0 u0 (.slice none 0 0) 0 false) 53)]) := Lib.hid ⟨below_grown (B := w.heap.size) (HS7.out.1.alloc HS7.out.1.size (.cells #[.int .i64 k2, .int .u64 (u2 0), .int .u64 (u2 1), .int .u64 (u2 2), .int .u64 (u2 3), .slice p2 n2 c2] 27)) hgrow7 (fun g h => by have := hbase g h; omega) (by rw [hya]; omega), fun c hc => by
          refine ⟨(HS7.out.2 c hc).1, ?_⟩
          have h1 := (HS7.out.2 c hc).2
          have h2 := (Array.getElem?_eq_some_iff.1 h1).1
          have h3 : (y2.alloc (.cells #[.int .i64 k2, .int .u64 (u2 0), .int .u64 (u2 1), .int .u64 (u2 2), .int .u64 (u2 3), .slice p2 n2 c2] 27)).heap[c.1]? = some c.2 := (heap_alloc_old y2 _ h2).trans h1
          refine (hgrow7.block c.1 (by rw [hya]; omega) (fun e => ?_)).trans h3
          simp only [List.mem_cons, List.not_mem_nil, or_false] at hc
          rcases hc with rfl | rfl
          · exact X5.out e.symm
          · have := hbase _ e.symm; simp at this; omega⟩
        have hat2 : at6 b6 w7 = m2 := by unfold at6; rw [HSA.out.cell 6]; rfl
        clear hya hz7 hown7 hgrow7 hat7 hbase hlo1 X3 X4 X5 x1 x2 HT7 HC0 HS7 HV7 e0 e1 e2 e3 e4 e5 e6 e7
        go_wp2_with fail
        go_roundw
        case rel => exact ⟨ts ++ [t], r', k, k2, u2, p2, n2, c2, m2, HC2, HTA, HSA, HSF, HM2, by simp at hk; omega, by simp, by simp at hlen ⊢; omega, Lib.hid fun t' ht' => absurd (congrArg List.length ht') (by have := List.length_pos_iff.2 hnn; simp; omega)⟩
        case measure => rw [hat, hat2]; omega
    · have hr : Except.ok (ts, q) = R := by rw [← HC.out, alts, if_neg hc]
      subst hr
      clear HC hk
      obtain ⟨g, cap, hu, hgb, hgl, hgx, hnode⟩ := HT.out.node hnn 4 u0
      subst hu
      have HN := Lib.hid hnode
      clear hnode HT hat
      have hqq : (¬ (m : Int) < (s.size : Int)) ∨ ∃ c : UInt8, m < s.size ∧ (∀ h, s[m]'h = c) ∧ ((c.toNat : Int) == 124) = false := by
        cases q with
        | nil => left; have := HM.out; simp at this; omega
        | cons c r =>
          right
          have h1 := HSU.out.lt
          have h2 := HSU.out.get h1
          refine ⟨c, by have := HM.out; omega, by have e := HM.out; intro h; subst e; exact h2, u8f 124 (by omega) (by simpa using hc)⟩
      have HQ := Lib.hid hqq
      clear hqq hc
      by_cases h1 : ts.length = 1
      · obtain ⟨t, rfl⟩ := List.length_eq_one_iff.1 h1
        have hv := Lib.hid (HV.out t rfl)
        rw [show ([t] : List RT).length = 1 from rfl]
        have h6 := Lib.hid HS.out.heap
        have HT9 := Lib.hid HS.out.tl
        have HY := Lib.hid HT9.out.heap
        clear HV HN h1 hnn
        rcases HQ.out with hl | ⟨c, hl, hg, hcn⟩
        all_goals
          try have hl' : (m : Int) < (s.size : Int) := by omega
          go_wp2_with (first | (refine wpList_load_row rfl 53 (.tmp 5) rfl b6 rfl 53 (readC kx ux (.slice px nx cx) (m : Nat) false) (0, 0) _ h6.out Tryd.underlying53 rfl size53 ?_) | (refine wpList_store_row rfl 53 (.tmp 4) (.tmp 47) rfl w.heap.size (readC kx ux (.slice px nx cx) (m : Nat) false) rfl rfl 53 _ HY.out size53 rfl (readC_one _ _ _ _ _ _ _) ?_))
          (try simp only [Exit.inBlock, Exit.then])
          exact bodyPost_ret (v := .agg (readC kx ux (.slice px nx cx) (m : Nat) false)) (results_cell_row rfl _ _ w.heap.size 53 _ (0, 0) _ rfl (setRow_heap _ w.heap.size _ _ 53 (0, 0) HY.out) Tryd.underlying53 rfl size53) rfl ⟨below_row HT9.out.1 (Nat.le_refl _) _, HSU.out, kx, ux, px, nx, cx, by rw [HM.out], hv.out.mono (fun b h => ⟨by have := h.1; omega, by simp; exact h.2.1⟩) (fun b h _ => setRow_other _ w.heap.size b _ (by have := h.1; omega))⟩
      · have h1' : (1 : Int) < ((ts.length : Nat) : Int) := by have := List.length_pos_iff.2 hnn; omega
        have HJ : Hid (joinT 4 ts = .mk 4 u0 ts) := Lib.hid (by
          match ts, hnn, h1 with
          | [], h, _ => exact absurd rfl h
          | [t], _, h => exact absurd rfl h
          | _ :: _ :: _, _, _ => rfl)
        have HTH : Hid (wo.there b6 0 6) := Lib.hid fun j hj => ⟨by rw [Nat.zero_add, HS.out.cell j]; rcases (by omega : j = 0 ∨ j = 1 ∨ j = 2 ∨ j = 3 ∨ j = 4 ∨ j = 5) with rfl | rfl | rfl | rfl | rfl | rfl <;> rfl, HS.out.free (0 + j)⟩
        have HSN : Hid (Sb w (wo.setCells b6 0 ((nodeC 4 u0 (.slice (some ⟨g, 0, none⟩) ts.length cap))).toList) [(b6, .cells (readC 4 u0 (.slice (some ⟨g, 0, none⟩) ts.length cap) (m : Nat) false) 53), (w.heap.size, .cells (readC 0 u0 (.slice none 0 0) 0 false) 53)]) := Lib.hid ⟨setCells_below (by omega) _ _ _ HS.out.1, fun c hc => by
          simp only [List.mem_cons, List.not_mem_nil, or_false] at hc
          rcases hc with rfl | rfl
          · exact ⟨by simp; omega, by rw [setCells_heap _ _ _ _ HS.out.heap, putA_R]⟩
          · exact ⟨Nat.le_refl _, (setCells_other (by simp; omega) _ _ _).trans HS.out.tl.heap⟩⟩
        have HVN : Hid (RV (fun b => w.heap.size + 1 ≤ b ∧ b < wo.heap.size ∧ b ≠ b6) (wo.setCells b6 0 ((nodeC 4 u0 (.slice (some ⟨g, 0, none⟩) ts.length cap))).toList) (.mk 4 u0 ts) (.agg (nodeC 4 u0 (.slice (some ⟨g, 0, none⟩) ts.length cap)))) := Lib.hid (HN.out.mono (fun b h => h) (fun b h _ => setCells_other h.2.2 _ _ _))
        have HZN := Lib.hid (setCells_size (b := b6) ((nodeC 4 u0 (.slice (some ⟨g, 0, none⟩) ts.length cap))).toList 0 wo)
        clear HN HV h1 hnn
        rcases HQ.out with hl | ⟨c, hl, hg, hcn⟩
        all_goals
          try have hl' : (m : Int) < (s.size : Int) := by omega
          go_upto_region 12 with (first | (refine wpList_balt (p := some ⟨g, 0, none⟩) (n := ts.length) (c := cap) rfl rfl rfl rfl ?_) | (refine wpList_plain rfl fun K hK => wp_store_mid 27 (.tmp 46) (.tmp 45) rfl b6 0 (nodeC 4 u0 (.slice (some ⟨g, 0, none⟩) ts.length cap)) rfl rfl HTH.out size27r (nodeC_one _ _ _ _ _) (hK _ _ ?_)))
          refine at_world (fun y => Sb w y [(b6, .cells (readC 4 u0 (.slice (some ⟨g, 0, none⟩) ts.length cap) (m : Nat) false) 53), (w.heap.size, .cells (readC 0 u0 (.slice none 0 0) 0 false) 53)] ∧ RV (fun b => w.heap.size + 1 ≤ b ∧ b < wo.heap.size ∧ b ≠ b6) y (.mk 4 u0 ts) (.agg (nodeC 4 u0 (.slice (some ⟨g, 0, none⟩) ts.length cap))) ∧ y.heap.size = wo.heap.size) ⟨HSN.out, HVN.out, HZN.out⟩ fun y3 hy3 => ?_
          have HS3 := Lib.hid hy3.1
          have HV3 := Lib.hid hy3.2.1
          have HZ3 := Lib.hid hy3.2.2
          have h6 := Lib.hid HS3.out.heap
          have HT9 := Lib.hid HS3.out.tl
          have HY := Lib.hid HT9.out.heap
          clear hy3 HSN HVN HZN HTH
          go_wp2_with (first | (refine wpList_load_row rfl 53 (.tmp 5) rfl b6 rfl 53 (readC 4 u0 (.slice (some ⟨g, 0, none⟩) ts.length cap) (m : Nat) false) (0, 0) _ h6.out Tryd.underlying53 rfl size53 ?_) | (refine wpList_store_row rfl 53 (.tmp 4) (.tmp 47) rfl w.heap.size (readC 4 u0 (.slice (some ⟨g, 0, none⟩) ts.length cap) (m : Nat) false) rfl rfl 53 _ HY.out size53 rfl (readC_one _ _ _ _ _ _ _) ?_))
          (try simp only [Exit.inBlock, Exit.then])
          exact bodyPost_ret (v := .agg (readC 4 u0 (.slice (some ⟨g, 0, none⟩) ts.length cap) (m : Nat) false)) (results_cell_row rfl _ _ w.heap.size 53 _ (0, 0) _ rfl (setRow_heap _ w.heap.size _ _ 53 (0, 0) HY.out) Tryd.underlying53 rfl size53) rfl ⟨below_row HT9.out.1 (Nat.le_refl _) _, HSU.out, 4, u0, some ⟨g, 0, none⟩, ts.length, cap, by rw [HM.out], by rw [HJ.out]; exact HV3.out.mono (fun b h => ⟨by have := h.1; omega, by have e := HZ3.out; simp; have := h.2.1; omega⟩) (fun b h _ => setRow_other _ w.heap.size b _ (by have := h.1; omega))⟩
end Go.Proofs.YtmjojahkbjlcdaaDoor
end
section
namespace Go.Proofs.YtmjojahkbjlcdaaDoor
set_option linter.unusedSimpArgs false
set_option linter.unusedVariables false
set_option maxRecDepth 100000
open Go.RowKit

/- The document's choice, as choiceF. -/
theorem choiced_walk {s : ByteArray} {w : World} (ch : List UInt8 → Except (List UInt8) (RT × List UInt8)) (hs : s.size ≤ 1000) (q0 : List UInt8) (h0 : Suf s q0) (hon : Ons ch)
    (hRW : Hid (∀ q w, q.length ≤ q0.length → Suf s q → Calls Tryd.prog 49 #[.string s, .int .i64 ((s.size - q.length : Nat) : Int)] w (RdP s w (rowF ch q)))) :
    Calls Tryd.prog 38 #[.string s, .int .i64 ((s.size - q0.length : Nat) : Int)] w (RdP s w (choiceF ch q0)) := by
  have hR := Lib.hid fun w => hRW.out q0 w (Nat.le_refl _) h0
  unfold choiceF
  cases hc : rowF ch q0 with
  | error t =>
    rw [hc] at hR
    exact choiced_e q0 t hR
  | ok v =>
    obtain ⟨t0, q1⟩ := v
    rw [hc] at hR
    exact choiced_o ch hs q0 q1 t0 h0 (rowF_le hon hc) hon hR hRW
end Go.Proofs.YtmjojahkbjlcdaaDoor
end
