import Derived.Lib.Slices
import Derived.Lib.Strings
import Derived.Test.YtmjojahkbjlcdaaDoorProg
import Derived.Test.YtmjojahkbjlcdaaDoorY3
import Derived.Test.YtmjojahkbjlcdaaDoorY4
import Derived.WalkKit
import Derived.WalkLawsBesides
import Derived.WalkSpells
import Derived.Outline
import Derived.Lib.Walk
import Derived.Lib.Hide
import Derived.RegionTactic
import Derived.LoopTactic
import Derived.Below
import Derived.IntWalk
import Derived.Deep.QuietTactic
import Derived.BigQuiet
import Derived.Test.YtmjojahkbjlcdaaDoorY43
namespace Go.Proofs.YtmjojahkbjlcdaaDoor
set_option linter.unusedSimpArgs false
set_option linter.unusedVariables false
set_option maxRecDepth 100000
open Go.RowKit

/- The document's row. -/
theorem bknd (K : Int) (p : Option Addr) (n c : Nat) : Tryd.prog.built 27 [(0, .int .i64 K), (2, .slice p n c)] = some (nodeC K u0 (.slice p n c)) := by kernel_rfl
theorem wpList_bknd {ops : Array Oper} {rest : List Oper} {o : Oper} {a : Act} {w : World} {Q : Exit → Act → World → Prop} {x y : Operand} {K : Int} {p : Option Addr} {n c : Nat} (hg : o.guard = none) (ho : o.op = .build 27 #[(0, x), (2, y)]) (hx : a.eval x = .int .i64 K) (hy : a.eval y = .slice p n c)
    (h : wpList Tryd.prog ops Q rest (a.put o.dst (.agg (nodeC K u0 (.slice p n c)))) w) : wpList Tryd.prog ops Q (o :: rest) a w := by
  refine wpList_build hg 27 _ ho ?_ ?_
  · simp [hx, hy, bknd]
  · simp [hx, hy, bknd]; exact h
theorem Thx.cells {x base : Nat} {ts : List RT} {sl : Value} {w : World} (h : Thx x base ts sl w) (o : Nat) (vs : List Value) : Thx x base ts sl (w.setCells x o vs) := by
  have hb := setCells_below (B := x) (b := x) (Nat.le_refl _) vs o w (Below.refl x w)
  exact h.keep ⟨hb.os, hb.tape, hb.output, hb.size, fun j _ hne => setCells_other (fun e => hne (by rw [e])) vs o w⟩
theorem Th.ofx {x base : Nat} {ts : List RT} {sl : Value} {w : World} (h : Thx x base ts sl w) : Th base ts sl w := by
  obtain ⟨xs, h1, h2, h3, h4, h5⟩ := h
  exact ⟨xs, h1, h2, fun i hi hi' => (h3 i hi hi').mono (fun b hb => ⟨hb.1, hb.2.1, hb.2.2.1⟩) (fun b hb hlt => rfl), h4⟩
theorem Thx.of {x base : Nat} {ts : List RT} {sl : Value} {w w' : World} (h : Th base ts sl w) (hb : Below w.heap.size w w') (hx : w.heap.size ≤ x) : Thx x base ts sl w' := by
  obtain ⟨xs, h1, h2, h3, h4⟩ := h
  refine ⟨xs, h1, h2, fun i hi hi' => (h3 i hi hi').mono (fun b hb' => ⟨hb'.1, Nat.lt_of_lt_of_le hb'.2.1 hb.size, hb'.2.2, by omega⟩) (fun b hb' hlt => hb.block b hlt), ?_, ?_⟩
  · refine World.ownsRow.kept h4 (⟨hb.os, hb.tape, hb.output, hb.size, fun j hj _ => hb.block j hj⟩ : w.grownBy w' none) ?_
    rcases h4.2 with ⟨rfl, _⟩ | ⟨g, cap, cur, rfl, hb, _⟩
    · simp [Value.ownBlock]
    · right
      simp [Value.ownBlock]
  · intro e
    have := (World.ownsRow.lt h4 x e).2
    omega
theorem bemp : Tryd.prog.built 27 [(0, .int .i64 1)] = some (nodeC 1 u0 (.slice none 0 0)) := by kernel_rfl
theorem wpList_bemp {ops : Array Oper} {rest : List Oper} {o : Oper} {a : Act} {w : World} {Q : Exit → Act → World → Prop} {x : Operand} (hg : o.guard = none) (ho : o.op = .build 27 #[(0, x)]) (hx : a.eval x = .int .i64 1)
    (h : wpList Tryd.prog ops Q rest (a.put o.dst (.agg (nodeC 1 u0 (.slice none 0 0)))) w) : wpList Tryd.prog ops Q (o :: rest) a w := by
  refine wpList_build hg 27 _ ho ?_ ?_
  · simp [hx, bemp]
  · simp [hx, bemp]; exact h
theorem Th.form {base : Nat} {ts : List RT} {sl : Value} {w : World} (h : Th base ts sl w) : ∃ p c, sl = .slice p ts.length c := by
  obtain ⟨xs, h1, h2, h3, h4⟩ := h
  rcases h4.2 with ⟨rfl, h0⟩ | ⟨g, cap, cur, rfl, _⟩
  · exact ⟨none, 0, by rw [h0]⟩
  · exact ⟨_, _, rfl⟩
set_option maxHeartbeats 8000000 in
theorem rowd_walk {s : ByteArray} {w : World} (ch : List UInt8 → Except (List UInt8) (RT × List UInt8)) (hs : s.size ≤ 1000) (q0 : List UInt8) (h0 : Suf s q0) (hon : Ons ch)
    (hAT : Hid (∀ q w, q ≠ [] → q.length ≤ q0.length → Suf s q → Calls Tryd.prog 68 #[.string s, .int .i64 ((s.size - q.length : Nat) : Int)] w (RdP s w (atomF ch q)))) :
    Calls Tryd.prog 49 #[.string s, .int .i64 ((s.size - q0.length : Nat) : Int)] w (RdP s w (rowF ch q0)) := by
  obtain ⟨i0, hi, hz0, hz1, hz2⟩ := info_parts infoN
  have hq0 := h0.len
  have HON := Lib.hid hon
  clear hon
  unfold rowF
  obtain ⟨R, hRR⟩ : ∃ R, thgs ch (q0.length + 1) [] q0 = R := ⟨_, rfl⟩
  rw [hRR]
  have HRR := Lib.hid hRR
  obtain ⟨m0, hm0⟩ : ∃ m0, s.size - q0.length = m0 := ⟨_, rfl⟩
  rw [hm0]
  have HM := Lib.hid hm0
  have hm0' : m0 ≤ s.size := by omega
  have HSU := Lib.hid h0
  clear hm0 hRR h0
  have hz := zero53
  have hz2' := zero27r
  have HA := Lib.hid ((Sb.start w).alloc (.cells (readC 0 u0 (.slice none 0 0) 0 false) 53))
  have HT0 := Lib.hid (Th.nil (w.heap.size + 1) (w.alloc (.cells (readC 0 u0 (.slice none 0 0) 0 false) 53)))
  go_enter Tryd.func49, Tryd.ntmps49
  go_wp2_with fail
  go_loopw [1, 5] (fun a sl wr => ∃ (ts : List RT) (q : List UInt8) (k m : Nat), a = .int .i64 (m : Nat) ∧ Hid (thgs ch k ts q = R) ∧ Hid (Th (w.heap.size + 1) ts sl wr) ∧ Hid (Sb w wr [(w.heap.size, .cells (readC 0 u0 (.slice none 0 0) 0 false) 53)]) ∧ Hid (Suf s q) ∧ Hid (s.size - q.length = m) ∧ q.length < k ∧ m ≤ s.size ∧ ts.length + q.length ≤ q0.length) (fun a _ _ => s.size - (intOf a).toNat)
  case atStart => exact ⟨[], q0, q0.length + 1, m0, rfl, HRR, HT0, HA, HSU, HM, by omega, hm0', by simp⟩
  case round =>
    clear HRR HT0 HA HSU HM hm0'
    obtain ⟨ts, q, k, m, rfl, HC, HT, HS, HSU, HM, hk, hms, hlen⟩ := hrel
    obtain ⟨wo, rfl⟩ : ∃ wo : World, wo = wr := ⟨_, rfl⟩
    obtain ⟨k, rfl⟩ : ∃ j, k = j + 1 := ⟨k - 1, by omega⟩
    have hstop : Stp2 q ∨ ∃ c r, q = c :: r ∧ ([124, 41] : List UInt8).contains c = false := by
      cases q with
      | nil => exact .inl (.inl rfl)
      | cons c r =>
        cases hc : ([124, 41] : List UInt8).contains c with
        | true => exact .inl (.inr ⟨c, r, rfl, by simpa using hc⟩)
        | false => exact .inr ⟨c, r, rfl, hc⟩
    rcases hstop with hst | ⟨c, r, rfl, hc⟩
    · obtain ⟨px, cx, hu5⟩ := HT.out.form
      subst hu5
      have hr : Except.ok (ts, q) = R := by
        rw [← HC.out]
        rcases hst with rfl | ⟨c, r, rfl, hc⟩
        · rw [thgs]
        · rw [thgs, if_pos (by rcases hc with rfl | rfl <;> decide)]
      subst hr
      have hqq : (¬ (m : Int) < (s.size : Int)) ∨ (∃ c : UInt8, m < s.size ∧ (∀ h, s[m]'h = c) ∧ ((c.toNat : Int) != 124) = false) ∨ (∃ c : UInt8, m < s.size ∧ (∀ h, s[m]'h = c) ∧ ((c.toNat : Int) != 124) = true ∧ ((c.toNat : Int) != 41) = false) := by
        rcases hst with rfl | ⟨c, r, rfl, hc⟩
        · left; have := HM.out; simp at this; omega
        · right
          have h1 := HSU.out.lt
          have h2 := HSU.out.get h1
          have h3 : m < s.size := by have := HM.out; omega
          have h4 : ∀ h, s[m]'h = c := by have e := HM.out; intro h; subst e; exact h2
          rcases hc with rfl | rfl
          · exact .inl ⟨124, h3, h4, by decide⟩
          · exact .inr ⟨41, h3, h4, by decide, by decide⟩
      have HQ := Lib.hid hqq
      have h9 := Lib.hid HS.out.heap
      clear hqq hst HC hk hlen hz0 hz1 hz2
      rcases ts with _ | ⟨t, _ | ⟨t2, tr⟩⟩
      · rw [show ([] : List RT).length = 0 from rfl]
        clear HT
        rcases HQ.out with hl | ⟨c, hl, hg, hcn⟩ | ⟨c, hl, hg, hcn, hcm⟩
        all_goals
          try have hl' : (m : Int) < (s.size : Int) := by omega
          go_wp2_with (first | (refine wpList_bemp rfl rfl rfl ?_) | (refine wpList_bread (k := 1) (u := u0) (p := none) (n := 0) (c := 0) (i := (m : Int)) rfl rfl rfl rfl ?_) | (refine wpList_store_row rfl 53 (.tmp 4) (.tmp 80) rfl w.heap.size (readC 1 u0 (.slice none 0 0) (m : Nat) false) rfl rfl 53 _ h9.out size53 rfl (readC_one _ _ _ _ _ _ _) ?_))
          (try simp only [Exit.inBlock, Exit.then])
          exact bodyPost_ret (v := .agg (readC 1 u0 (.slice none 0 0) (m : Nat) false)) (results_cell_row rfl _ _ w.heap.size 53 _ (0, 0) _ rfl (setRow_heap _ w.heap.size _ _ 53 (0, 0) h9.out) Tryd.underlying53 rfl size53) rfl ⟨below_row HS.out.1 (Nat.le_refl _) _, HSU.out, 1, u0, none, 0, 0, by rw [HM.out], .leaf 1 u0 none 0⟩
      · rw [show ([t] : List RT).length = 1 from rfl]
        obtain ⟨g, cap, k1, u1, p1, n1, c1, hsl, hgb, hgl, hv, hcl⟩ := HT.out.one
        cases hsl
        have HV := Lib.hid hv
        have d0 : wo.cell? ⟨g, 0, none⟩ = some (.int .i64 k1) := hcl 0 _ rfl
        have d1 : wo.cell? ⟨g, 1, none⟩ = some (.int .u64 (u1 0)) := hcl 1 _ rfl
        have d2 : wo.cell? ⟨g, 2, none⟩ = some (.int .u64 (u1 1)) := hcl 2 _ rfl
        have d3 : wo.cell? ⟨g, 3, none⟩ = some (.int .u64 (u1 2)) := hcl 3 _ rfl
        have d4 : wo.cell? ⟨g, 4, none⟩ = some (.int .u64 (u1 3)) := hcl 4 _ rfl
        have d5 : wo.cell? ⟨g, 5, none⟩ = some (.slice p1 n1 c1) := hcl 5 _ rfl
        clear HT hv hcl
        rcases HQ.out with hl | ⟨c, hl, hg, hcn⟩ | ⟨c, hl, hg, hcn, hcm⟩
        all_goals
          try have hl' : (m : Int) < (s.size : Int) := by omega
          go_wp2_with (first | (refine wpList_bread (k := k1) (u := u1) (p := p1) (n := n1) (c := c1) (i := (m : Int)) rfl rfl rfl rfl ?_) | (refine wpList_store_row rfl 53 (.tmp 4) (.tmp 88) rfl w.heap.size (readC k1 u1 (.slice p1 n1 c1) (m : Nat) false) rfl rfl 53 _ h9.out size53 rfl (readC_one _ _ _ _ _ _ _) ?_))
          (try simp only [Exit.inBlock, Exit.then])
          exact bodyPost_ret (v := .agg (readC k1 u1 (.slice p1 n1 c1) (m : Nat) false)) (results_cell_row rfl _ _ w.heap.size 53 _ (0, 0) _ rfl (setRow_heap _ w.heap.size _ _ 53 (0, 0) h9.out) Tryd.underlying53 rfl size53) rfl ⟨below_row HS.out.1 (Nat.le_refl _) _, HSU.out, k1, u1, p1, n1, c1, by rw [HM.out], HV.out.mono (fun b h => ⟨by have := h.1; omega, by simp; exact h.2⟩) (fun b h _ => setRow_other _ w.heap.size b _ (by have := h.1; omega))⟩
      · obtain ⟨g, cap, hsl, hgb, hgl, hnode⟩ := HT.out.node (by simp) 3 u0
        cases hsl
        obtain ⟨L, hL⟩ : ∃ L, (t :: t2 :: tr).length = L := ⟨_, rfl⟩
        rw [hL]
        rw [hL] at hnode
        have hL2 : 2 ≤ L := by rw [← hL]; simp
        have HN := Lib.hid hnode
        have hne : (((L : Nat) : Int) == 0) = false := by rw [beq_eq_false_iff_ne]; omega
        have hne1 : (((L : Nat) : Int) == 1) = false := by rw [beq_eq_false_iff_ne]; omega
        have hne2 : decide (L = 1) = false := by simp; omega
        have hne3 : (L == 1) = false := by rw [beq_eq_false_iff_ne]; omega
        have hne4 : decide (L = 0) = false := by simp; omega
        have hne5 : (L == 0) = false := by rw [beq_eq_false_iff_ne]; omega
        clear HT hnode hL hL2
        rcases HQ.out with hl | ⟨c, hl, hg, hcn⟩ | ⟨c, hl, hg, hcn, hcm⟩
        all_goals
          try have hl' : (m : Int) < (s.size : Int) := by omega
          go_wp2_with (first | (refine wpList_bknd (K := 3) (p := some ⟨g, 0, none⟩) (n := L) (c := cx) rfl rfl rfl rfl ?_) | (refine wpList_bread (k := 3) (u := u0) (p := some ⟨g, 0, none⟩) (n := L) (c := cx) (i := (m : Int)) rfl rfl rfl rfl ?_) | (refine wpList_store_row rfl 53 (.tmp 4) (.tmp 92) rfl w.heap.size (readC 3 u0 (.slice (some ⟨g, 0, none⟩) L cx) (m : Nat) false) rfl rfl 53 _ h9.out size53 rfl (readC_one _ _ _ _ _ _ _) ?_))
          (try simp only [Exit.inBlock, Exit.then])
          exact bodyPost_ret (v := .agg (readC 3 u0 (.slice (some ⟨g, 0, none⟩) L cx) (m : Nat) false)) (results_cell_row rfl _ _ w.heap.size 53 _ (0, 0) _ rfl (setRow_heap _ w.heap.size _ _ 53 (0, 0) h9.out) Tryd.underlying53 rfl size53) rfl ⟨below_row HS.out.1 (Nat.le_refl _) _, HSU.out, 3, u0, some ⟨g, 0, none⟩, L, cx, by rw [HM.out], HN.out.mono (fun b h => ⟨by have := h.1; omega, by simp; exact h.2⟩) (fun b h _ => setRow_other _ w.heap.size b _ (by have := h.1; omega))⟩
    · have hlt := HSU.out.lt
      have hg0 := HSU.out.get hlt
      rw [HM.out] at hlt
      have hg : ∀ h, s[m]'h = c := by have e := HM.out; intro h; subst e; exact hg0
      have hlt' : (m : Int) < (s.size : Int) := by omega
      have hne : c ≠ 124 ∧ c ≠ 41 := by simpa using hc
      have e124 : ((c.toNat : Int) != 124) = true := by have e : ((c.toNat : Int) == 124) = false := u8f 124 (by omega) hne.1; rw [bne, e]; rfl
      have e41 : ((c.toNat : Int) != 41) = true := by have e : ((c.toNat : Int) == 41) = false := u8f 41 (by omega) hne.2; rw [bne, e]; rfl
      have HAq := Lib.hid fun w => hAT.out (c :: r) w (by simp) (by simp at hlen ⊢; omega) HSU.out
      rw [HM.out] at HAq
      have HR : Hid ((match thingF ch (c :: r) with | .error q => .error q | .ok (t, q) => thgs ch k (ts ++ [t]) q) = R) := Lib.hid (by
        rw [← HC.out, thgs]
        simp only [hc, Bool.false_eq_true, if_false]
        rfl)
      clear hg0 hc hne HC
      unfold thingF at HR
      cases hth : atomF ch (c :: r) with
      | error t =>
        have hr : Except.error t = R := by rw [← HR.out, hth]
        subst hr
        rw [hth] at HAq
        clear HR hk hth
        go_wp2_with fail
        refine (HAq.out _).mono ?_
        rintro _ w6 ⟨hb, hsuf, rfl⟩
        have HS6 := Lib.hid (HS.out.up hb)
        have HSF := Lib.hid hsuf
        obtain ⟨m2, hm2⟩ : ∃ m2, s.size - t.length = m2 := ⟨_, rfl⟩
        rw [hm2]
        have HM2 := Lib.hid hm2
        have HF0 := Lib.hid (HS6.out.alloc (.cells (readC 0 u0 (.slice none 0 0) 0 false) 53))
        have h7 := Lib.hid HF0.out.heap
        have HF1 := Lib.hid (HF0.out.setRow (cs' := (readC 0 u0 (.slice none 0 0) (m2 : Nat) true)) (by intro c hc; have z := HS6.out.lt; simp at hc; subst hc; simp at z ⊢; omega))
        clear hb hsuf hm2 HS HT HAq
        go_upto_region 4 with (refine wpList_store_row rfl 53 (.tmp 6) (.tmp 26) rfl w6.heap.size (readC 0 u0 (.slice none 0 0) (m2 : Nat) true) rfl rfl 53 _ h7.out size53 rfl (readC_one _ _ _ _ _ _ _) ?_)
        generalize w6.heap.size = b6 at *
        refine at_world (fun y => Sb w y [(b6, .cells (readC 0 u0 (.slice none 0 0) (m2 : Nat) true) 53), (w.heap.size, .cells (readC 0 u0 (.slice none 0 0) 0 false) 53)]) HF1.out fun y2 hy2 => ?_
        have HS7 := Lib.hid hy2
        clear hy2 HF0 HF1 h7
        have e0 : y2.cell? ⟨b6, 0, none⟩ = some (.int .i64 0) := HS7.out.cell 0
        have e1 : y2.cell? ⟨b6, 1, none⟩ = some (.int .u64 (u0 0)) := HS7.out.cell 1
        have e2 : y2.cell? ⟨b6, 2, none⟩ = some (.int .u64 (u0 1)) := HS7.out.cell 2
        have e3 : y2.cell? ⟨b6, 3, none⟩ = some (.int .u64 (u0 2)) := HS7.out.cell 3
        have e4 : y2.cell? ⟨b6, 4, none⟩ = some (.int .u64 (u0 3)) := HS7.out.cell 4
        have e5 : y2.cell? ⟨b6, 5, none⟩ = some (.slice none 0 0) := HS7.out.cell 5
        have e6 : y2.cell? ⟨b6, 6, none⟩ = some (.int .i64 ((m2 : Nat))) := HS7.out.cell 6
        have e7 : y2.cell? ⟨b6, 7, none⟩ = some (.bool true) := HS7.out.cell 7
        have h6 := Lib.hid HS7.out.heap
        have HT9 := Lib.hid HS7.out.tl
        have HY := Lib.hid HT9.out.heap
        go_wp2_with (first | (refine wpList_load_row rfl 53 (.tmp 6) rfl b6 rfl 53 (readC 0 u0 (.slice none 0 0) (m2 : Nat) true) (0, 0) _ h6.out Tryd.underlying53 rfl size53 ?_) | (refine wpList_store_row rfl 53 (.tmp 4) (.tmp 29) rfl w.heap.size (readC 0 u0 (.slice none 0 0) (m2 : Nat) true) rfl rfl 53 _ HY.out size53 rfl (readC_one _ _ _ _ _ _ _) ?_))
        (try simp only [Exit.inBlock, Exit.then])
        exact bodyPost_ret (v := .agg (readC 0 u0 (.slice none 0 0) (m2 : Nat) true)) (results_cell_row rfl _ _ w.heap.size 53 _ (0, 0) _ rfl (setRow_heap _ w.heap.size _ _ 53 (0, 0) HY.out) Tryd.underlying53 rfl size53) rfl ⟨below_row HT9.out.1 (Nat.le_refl _) _, HSF.out, by rw [HM2.out]⟩
      | ok v =>
        obtain ⟨t, q1⟩ := v
        have HR2 : Hid (thgs ch k (ts ++ [(reps t q1).1]) (reps t q1).2 = R) := Lib.hid (by rw [← HR.out, hth])
        have hla := atomF_lt HON.out hth
        have hmA : m + q1.length < s.size := by have a1 := HSU.out.len; have a2 := HM.out; omega
        rw [hth] at HAq
        clear HR hth
        go_wp2_with fail
        refine (HAq.out _).mono ?_
        rintro _ w6 ⟨hb, hsuf, k2, u2, p2, n2, c2, rfl, hv⟩
        have HSF := Lib.hid hsuf
        obtain ⟨m2, hm2⟩ : ∃ m2, s.size - q1.length = m2 := ⟨_, rfl⟩
        rw [hm2]
        have HM2 := Lib.hid hm2
        have hm2s : m2 ≤ s.size := by omega
        have hs6 := hb.size
        have HS6 := Lib.hid (HS.out.up hb)
        have HF0 := Lib.hid (HS6.out.alloc (.cells (readC 0 u0 (.slice none 0 0) 0 false) 53))
        have h7 := Lib.hid HF0.out.heap
        have HF1 := Lib.hid (HF0.out.setRow (cs' := (readC k2 u2 (.slice p2 n2 c2) (m2 : Nat) false)) (by intro c hc; have z := HS6.out.lt; simp at hc; subst hc; simp at z ⊢; omega))
        have HTX := Lib.hid ((Thx.of (x := w6.heap.size) (w' := w6.alloc (.cells (readC 0 u0 (.slice none 0 0) 0 false) 53)) HT.out (hb.alloc hb.size (.cells (readC 0 u0 (.slice none 0 0) 0 false) 53)) hs6).row (readC k2 u2 (.slice p2 n2 c2) (m2 : Nat) false))
        have hv2 : RV (fun b => wo.heap.size ≤ b ∧ b < w6.heap.size) ((w6.alloc (.cells (readC 0 u0 (.slice none 0 0) 0 false) 53)).setRow w6.heap.size (readC k2 u2 (.slice p2 n2 c2) (m2 : Nat) false)) t (.agg (nodeC k2 u2 (.slice p2 n2 c2))) := RV.mono (fun b h => h) (fun b h _ => (setRow_other _ w6.heap.size b _ (by have := h.2; omega)).trans (((Below.refl w6.heap.size w6).alloc (Nat.le_refl _) _).block b h.2)) hv
        have HV6 := Lib.hid hv2
        have hsz6 : ((w6.alloc (.cells (readC 0 u0 (.slice none 0 0) 0 false) 53)).setRow w6.heap.size (readC k2 u2 (.slice p2 n2 c2) (m2 : Nat) false)).heap.size = w6.heap.size + 1 := by simp
        have hbw := HS6.out.lt
        have hlo1 := Lib.hid fun g (hg : u5.ownBlock = some g) => (by obtain ⟨xs, _, _, _, h4⟩ := HT.out; exact (World.ownsRow.lt h4 g hg).2 : g < wo.heap.size)
        have hwow := HS.out.lt
        have hmq : m = s.size - (c :: r).length := HM.out.symm
        clear hb hsuf hm2 hv hv2 HS HT HAq
        go_upto_region 4 with (refine wpList_store_row rfl 53 (.tmp 6) (.tmp 26) rfl w6.heap.size (readC k2 u2 (.slice p2 n2 c2) (m2 : Nat) false) rfl rfl 53 _ h7.out size53 rfl (readC_one _ _ _ _ _ _ _) ?_)
        obtain ⟨b6, hb6⟩ : ∃ b6, w6.heap.size = b6 := ⟨_, rfl⟩
        simp only [hb6] at *
        refine at_world (fun y => Sb w y [(b6, .cells (readC k2 u2 (.slice p2 n2 c2) (m2 : Nat) false) 53), (w.heap.size, .cells (readC 0 u0 (.slice none 0 0) 0 false) 53)] ∧ Thx b6 (w.heap.size + 1) ts u5 y ∧ RV (fun b => wo.heap.size ≤ b ∧ b < b6) y t (.agg (nodeC k2 u2 (.slice p2 n2 c2))) ∧ y.heap.size = b6 + 1) ⟨HF1.out, HTX.out, HV6.out, hsz6⟩ fun y2 hy2 => ?_
        have HS7 := Lib.hid hy2.1
        have HT7 := Lib.hid hy2.2.1
        have HZ7 := Lib.hid hy2.2.2.2
        have HV7 : Hid (RV (fun b => wo.heap.size ≤ b ∧ b < y2.heap.size ∧ b ≠ b6) y2 t (.agg (nodeC k2 u2 (.slice p2 n2 c2)))) := Lib.hid (hy2.2.2.1.mono (fun b h => ⟨h.1, by have := hy2.2.2.2; omega, by omega⟩) (fun b h _ => rfl))
        clear hy2 HF0 HF1 h7 HTX HV6 hsz6 hb6
        have e0 : y2.cell? ⟨b6, 0, none⟩ = some (.int .i64 k2) := HS7.out.cell 0
        have e1 : y2.cell? ⟨b6, 1, none⟩ = some (.int .u64 (u2 0)) := HS7.out.cell 1
        have e2 : y2.cell? ⟨b6, 2, none⟩ = some (.int .u64 (u2 1)) := HS7.out.cell 2
        have e3 : y2.cell? ⟨b6, 3, none⟩ = some (.int .u64 (u2 2)) := HS7.out.cell 3
        have e4 : y2.cell? ⟨b6, 4, none⟩ = some (.int .u64 (u2 3)) := HS7.out.cell 4
        have e5 : y2.cell? ⟨b6, 5, none⟩ = some (.slice p2 n2 c2) := HS7.out.cell 5
        have e6 : y2.cell? ⟨b6, 6, none⟩ = some (.int .i64 ((m2 : Nat))) := HS7.out.cell 6
        have e7 : y2.cell? ⟨b6, 7, none⟩ = some (.bool false) := HS7.out.cell 7
        go_wp2_with fail
        go_loopw [1, 7] (fun a kd wr => ∃ (t2 : RT) (q2 : List UInt8) (k2 : Int) (u2 : Nat → Int) (p2 : Option Addr) (n2 c2 m2 m3 : Nat), a = .int .i64 (m2 : Nat) ∧ Hid (reps t2 q2 = reps t q1) ∧ Hid (Thx b6 (w.heap.size + 1) ts u5 wr) ∧ Hid (Sb w wr [(b6, .cells (readC k2 u2 (.slice p2 n2 c2) (m3 : Nat) false) 53), (w.heap.size, .cells (readC 0 u0 (.slice none 0 0) 0 false) 53)]) ∧ Hid (Suf s q2) ∧ Hid (s.size - q2.length = m2) ∧ q2.length ≤ q1.length ∧ m2 ≤ s.size ∧ Hid (RV (fun b => wo.heap.size ≤ b ∧ b < wr.heap.size ∧ b ≠ b6) wr t2 (.agg (nodeC k2 u2 (.slice p2 n2 c2))))) (fun a _ _ => s.size - (intOf a).toNat)
        case atStart => exact ⟨t, q1, k2, u2, p2, n2, c2, m2, m2, rfl, Lib.hid rfl, HT7, HS7, HSF, HM2, Nat.le_refl _, hm2s, HV7⟩
        case round =>
          clear HS7 HT7 HSF HM2 HV7 HZ7 e0 e1 e2 e3 e4 e5 e6 e7
          obtain ⟨t2, q2, k2, u2, p2, n2, c2, m2, m3, rfl, HRP, HT, HS, HSU2, HM2, hq2, hms2, HV⟩ := hrel
          obtain ⟨wi, rfl⟩ : ∃ wi : World, wi = wr := ⟨_, rfl⟩
          have hb6w : b6 < wi.heap.size := HS.out.lt
          have hin : (∃ c r, q2 = c :: r ∧ rps.contains c = true) ∨ (q2 = [] ∨ ∃ c r, q2 = c :: r ∧ rps.contains c = false) := by
            cases q2 with
            | nil => exact .inr (.inl rfl)
            | cons c r =>
              cases hc : rps.contains c with
              | true => exact .inl ⟨c, r, rfl, hc⟩
              | false => exact .inr (.inr ⟨c, r, rfl, hc⟩)
          have e0 : wi.cell? ⟨b6, 0, none⟩ = some (.int .i64 k2) := HS.out.cell 0
          have e1 : wi.cell? ⟨b6, 1, none⟩ = some (.int .u64 (u2 0)) := HS.out.cell 1
          have e2 : wi.cell? ⟨b6, 2, none⟩ = some (.int .u64 (u2 1)) := HS.out.cell 2
          have e3 : wi.cell? ⟨b6, 3, none⟩ = some (.int .u64 (u2 2)) := HS.out.cell 3
          have e4 : wi.cell? ⟨b6, 4, none⟩ = some (.int .u64 (u2 3)) := HS.out.cell 4
          have e5 : wi.cell? ⟨b6, 5, none⟩ = some (.slice p2 n2 c2) := HS.out.cell 5
          have e6 : wi.cell? ⟨b6, 6, none⟩ = some (.int .i64 ((m3 : Nat))) := HS.out.cell 6
          have e7 : wi.cell? ⟨b6, 7, none⟩ = some (.bool false) := HS.out.cell 7
          rcases hin with ⟨c, r, rfl, hc⟩ | hst
          · have hlt := HSU2.out.lt
            have hg0 := HSU2.out.get hlt
            have hnx := HSU2.out.next
            rw [HM2.out] at hlt hnx
            have hg : ∀ h, s[m2]'h = c := by have e := HM2.out; intro h; subst e; exact hg0
            have hlt' : (m2 : Int) < (s.size : Int) := by omega
            have HSR := Lib.hid HSU2.out.tl
            have HMR : Hid (s.size - r.length = m2 + 1) := Lib.hid hnx.symm
            have hc3 : c = 42 ∨ c = 43 ∨ c = 63 := by simp only [rps, List.contains_cons, List.contains_nil, Bool.or_false, Bool.or_eq_true, beq_iff_eq] at hc; exact hc
            clear hg0 hnx HSU2 HM2
            rcases hc3 with rfl | rfl | rfl
            · have HRP2 : Hid (reps (.mk 5 u0 [t2]) r = reps t q1) := Lib.hid (by rw [← HRP.out, reps, if_pos hc]; rfl)
              have HTS := Lib.hid (Thx.single (x := b6) (base := wo.heap.size) (by omega) hb6w HV.out)
              obtain ⟨_, _, _, _, _, _, hnode⟩ := HTS.out.node (by simp) 5 u0
              have HSA := Lib.hid (HS.out.up ((Below.refl wi.heap.size wi).alloc (Nat.le_refl _) (.cells (nodeC k2 u2 (.slice p2 n2 c2)) 27)))
              have HTA := Lib.hid ((HT.out.up ((Below.refl wi.heap.size wi).alloc (Nat.le_refl _) (.cells (nodeC k2 u2 (.slice p2 n2 c2)) 27))).cells 0 ((nodeC 5 u0 (.slice (some ⟨wi.heap.size, 0, none⟩) 1 1))).toList)
              have HVN : Hid (RV (fun b => wo.heap.size ≤ b ∧ b < (wi.alloc (.cells (nodeC k2 u2 (.slice p2 n2 c2)) 27)).heap.size ∧ b ≠ b6) ((wi.alloc (.cells (nodeC k2 u2 (.slice p2 n2 c2)) 27)).setCells b6 0 ((nodeC 5 u0 (.slice (some ⟨wi.heap.size, 0, none⟩) 1 1))).toList) (.mk 5 u0 [t2]) (.agg (nodeC 5 u0 (.slice (some ⟨wi.heap.size, 0, none⟩) 1 1)))) := Lib.hid (hnode.mono (fun b h => h) (fun b h _ => setCells_other h.2.2 _ _ _))
              have HTH : Hid ((wi.alloc (.cells (nodeC k2 u2 (.slice p2 n2 c2)) 27)).there b6 0 6) := Lib.hid fun j hj => ⟨by rw [Nat.zero_add, HSA.out.cell j]; rcases (by omega : j = 0 ∨ j = 1 ∨ j = 2 ∨ j = 3 ∨ j = 4 ∨ j = 5) with rfl | rfl | rfl | rfl | rfl | rfl <;> rfl, HSA.out.free (0 + j)⟩
              have HSN : Hid (Sb w ((wi.alloc (.cells (nodeC k2 u2 (.slice p2 n2 c2)) 27)).setCells b6 0 ((nodeC 5 u0 (.slice (some ⟨wi.heap.size, 0, none⟩) 1 1))).toList) [(b6, .cells (readC 5 u0 (.slice (some ⟨wi.heap.size, 0, none⟩) 1 1) (m3 : Nat) false) 53), (w.heap.size, .cells (readC 0 u0 (.slice none 0 0) 0 false) 53)]) := Lib.hid ⟨setCells_below (by omega) _ _ _ HSA.out.1, fun c hc => by
                simp only [List.mem_cons, List.not_mem_nil, or_false] at hc
                rcases hc with rfl | rfl
                · exact ⟨by simp; omega, by rw [setCells_heap _ _ _ _ HSA.out.heap, putA_R]⟩
                · exact ⟨Nat.le_refl _, (setCells_other (by simp; omega) _ _ _).trans HSA.out.tl.heap⟩⟩
              have HZN := Lib.hid (setCells_size (b := b6) ((nodeC 5 u0 (.slice (some ⟨wi.heap.size, 0, none⟩) 1 1))).toList 0 (wi.alloc (.cells (nodeC k2 u2 (.slice p2 n2 c2)) 27)))
              clear hnode HTS HT HS HV HSA HRP
              skip
              go_upto_region 14 with (first | (refine wpList_bknd (K := 5) (p := some ⟨wi.heap.size, 0, none⟩) (n := 1) (c := 1) rfl rfl rfl rfl ?_) | (refine wpList_plain rfl fun K hK => wp_store_mid 27 (.tmp 67) (.tmp 66) rfl b6 0 (nodeC 5 u0 (.slice (some ⟨wi.heap.size, 0, none⟩) 1 1)) rfl rfl HTH.out size27r (nodeC_one _ _ _ _ _) (hK _ _ ?_)))
              refine at_world (fun y => Sb w y [(b6, .cells (readC 5 u0 (.slice (some ⟨wi.heap.size, 0, none⟩) 1 1) (m3 : Nat) false) 53), (w.heap.size, .cells (readC 0 u0 (.slice none 0 0) 0 false) 53)] ∧ Thx b6 (w.heap.size + 1) ts u5 y ∧ RV (fun b => wo.heap.size ≤ b ∧ b < (wi.alloc (.cells (nodeC k2 u2 (.slice p2 n2 c2)) 27)).heap.size ∧ b ≠ b6) y (.mk 5 u0 [t2]) (.agg (nodeC 5 u0 (.slice (some ⟨wi.heap.size, 0, none⟩) 1 1))) ∧ y.heap.size = (wi.alloc (.cells (nodeC k2 u2 (.slice p2 n2 c2)) 27)).heap.size) ⟨HSN.out, HTA.out, HVN.out, HZN.out⟩ fun y3 hy3 => ?_
              have HS3 := Lib.hid hy3.1
              have HT3 := Lib.hid hy3.2.1
              have HV3 := Lib.hid (hy3.2.2.1.mono (E := fun b => wo.heap.size ≤ b ∧ b < y3.heap.size ∧ b ≠ b6) (w' := y3) (fun b h => ⟨h.1, by rw [hy3.2.2.2]; exact h.2.1, h.2.2⟩) (fun b h _ => rfl))
              clear hy3 HSN HTA HVN HZN HTH
              go_wp2_with fail
              go_roundw
              case rel => exact ⟨.mk 5 u0 [t2], r, 5, u0, some ⟨wi.heap.size, 0, none⟩, 1, 1, m2 + 1, m3, by go_num, HRP2, HT3, HS3, HSR, HMR, by simp at hq2; omega, by omega, HV3⟩
              case measure => simp [intOf]; omega
            · have HRP2 : Hid (reps (.mk 6 u0 [t2]) r = reps t q1) := Lib.hid (by rw [← HRP.out, reps, if_pos hc]; rfl)
              have HTS := Lib.hid (Thx.single (x := b6) (base := wo.heap.size) (by omega) hb6w HV.out)
              obtain ⟨_, _, _, _, _, _, hnode⟩ := HTS.out.node (by simp) 6 u0
              have HSA := Lib.hid (HS.out.up ((Below.refl wi.heap.size wi).alloc (Nat.le_refl _) (.cells (nodeC k2 u2 (.slice p2 n2 c2)) 27)))
              have HTA := Lib.hid ((HT.out.up ((Below.refl wi.heap.size wi).alloc (Nat.le_refl _) (.cells (nodeC k2 u2 (.slice p2 n2 c2)) 27))).cells 0 ((nodeC 6 u0 (.slice (some ⟨wi.heap.size, 0, none⟩) 1 1))).toList)
              have HVN : Hid (RV (fun b => wo.heap.size ≤ b ∧ b < (wi.alloc (.cells (nodeC k2 u2 (.slice p2 n2 c2)) 27)).heap.size ∧ b ≠ b6) ((wi.alloc (.cells (nodeC k2 u2 (.slice p2 n2 c2)) 27)).setCells b6 0 ((nodeC 6 u0 (.slice (some ⟨wi.heap.size, 0, none⟩) 1 1))).toList) (.mk 6 u0 [t2]) (.agg (nodeC 6 u0 (.slice (some ⟨wi.heap.size, 0, none⟩) 1 1)))) := Lib.hid (hnode.mono (fun b h => h) (fun b h _ => setCells_other h.2.2 _ _ _))
              have HTH : Hid ((wi.alloc (.cells (nodeC k2 u2 (.slice p2 n2 c2)) 27)).there b6 0 6) := Lib.hid fun j hj => ⟨by rw [Nat.zero_add, HSA.out.cell j]; rcases (by omega : j = 0 ∨ j = 1 ∨ j = 2 ∨ j = 3 ∨ j = 4 ∨ j = 5) with rfl | rfl | rfl | rfl | rfl | rfl <;> rfl, HSA.out.free (0 + j)⟩
              have HSN : Hid (Sb w ((wi.alloc (.cells (nodeC k2 u2 (.slice p2 n2 c2)) 27)).setCells b6 0 ((nodeC 6 u0 (.slice (some ⟨wi.heap.size, 0, none⟩) 1 1))).toList) [(b6, .cells (readC 6 u0 (.slice (some ⟨wi.heap.size, 0, none⟩) 1 1) (m3 : Nat) false) 53), (w.heap.size, .cells (readC 0 u0 (.slice none 0 0) 0 false) 53)]) := Lib.hid ⟨setCells_below (by omega) _ _ _ HSA.out.1, fun c hc => by
                simp only [List.mem_cons, List.not_mem_nil, or_false] at hc
                rcases hc with rfl | rfl
                · exact ⟨by simp; omega, by rw [setCells_heap _ _ _ _ HSA.out.heap, putA_R]⟩
                · exact ⟨Nat.le_refl _, (setCells_other (by simp; omega) _ _ _).trans HSA.out.tl.heap⟩⟩
              have HZN := Lib.hid (setCells_size (b := b6) ((nodeC 6 u0 (.slice (some ⟨wi.heap.size, 0, none⟩) 1 1))).toList 0 (wi.alloc (.cells (nodeC k2 u2 (.slice p2 n2 c2)) 27)))
              clear hnode HTS HT HS HV HSA HRP
              skip
              go_upto_region 14 with (first | (refine wpList_bknd (K := 6) (p := some ⟨wi.heap.size, 0, none⟩) (n := 1) (c := 1) rfl rfl rfl rfl ?_) | (refine wpList_plain rfl fun K hK => wp_store_mid 27 (.tmp 67) (.tmp 66) rfl b6 0 (nodeC 6 u0 (.slice (some ⟨wi.heap.size, 0, none⟩) 1 1)) rfl rfl HTH.out size27r (nodeC_one _ _ _ _ _) (hK _ _ ?_)))
              refine at_world (fun y => Sb w y [(b6, .cells (readC 6 u0 (.slice (some ⟨wi.heap.size, 0, none⟩) 1 1) (m3 : Nat) false) 53), (w.heap.size, .cells (readC 0 u0 (.slice none 0 0) 0 false) 53)] ∧ Thx b6 (w.heap.size + 1) ts u5 y ∧ RV (fun b => wo.heap.size ≤ b ∧ b < (wi.alloc (.cells (nodeC k2 u2 (.slice p2 n2 c2)) 27)).heap.size ∧ b ≠ b6) y (.mk 6 u0 [t2]) (.agg (nodeC 6 u0 (.slice (some ⟨wi.heap.size, 0, none⟩) 1 1))) ∧ y.heap.size = (wi.alloc (.cells (nodeC k2 u2 (.slice p2 n2 c2)) 27)).heap.size) ⟨HSN.out, HTA.out, HVN.out, HZN.out⟩ fun y3 hy3 => ?_
              have HS3 := Lib.hid hy3.1
              have HT3 := Lib.hid hy3.2.1
              have HV3 := Lib.hid (hy3.2.2.1.mono (E := fun b => wo.heap.size ≤ b ∧ b < y3.heap.size ∧ b ≠ b6) (w' := y3) (fun b h => ⟨h.1, by rw [hy3.2.2.2]; exact h.2.1, h.2.2⟩) (fun b h _ => rfl))
              clear hy3 HSN HTA HVN HZN HTH
              go_wp2_with fail
              go_roundw
              case rel => exact ⟨.mk 6 u0 [t2], r, 6, u0, some ⟨wi.heap.size, 0, none⟩, 1, 1, m2 + 1, m3, by go_num, HRP2, HT3, HS3, HSR, HMR, by simp at hq2; omega, by omega, HV3⟩
              case measure => simp [intOf]; omega
            · have HRP2 : Hid (reps (.mk 7 u0 [t2]) r = reps t q1) := Lib.hid (by rw [← HRP.out, reps, if_pos hc]; rfl)
              have HTS := Lib.hid (Thx.single (x := b6) (base := wo.heap.size) (by omega) hb6w HV.out)
              obtain ⟨_, _, _, _, _, _, hnode⟩ := HTS.out.node (by simp) 7 u0
              have HSA := Lib.hid (HS.out.up ((Below.refl wi.heap.size wi).alloc (Nat.le_refl _) (.cells (nodeC k2 u2 (.slice p2 n2 c2)) 27)))
              have HTA := Lib.hid ((HT.out.up ((Below.refl wi.heap.size wi).alloc (Nat.le_refl _) (.cells (nodeC k2 u2 (.slice p2 n2 c2)) 27))).cells 0 ((nodeC 7 u0 (.slice (some ⟨wi.heap.size, 0, none⟩) 1 1))).toList)
              have HVN : Hid (RV (fun b => wo.heap.size ≤ b ∧ b < (wi.alloc (.cells (nodeC k2 u2 (.slice p2 n2 c2)) 27)).heap.size ∧ b ≠ b6) ((wi.alloc (.cells (nodeC k2 u2 (.slice p2 n2 c2)) 27)).setCells b6 0 ((nodeC 7 u0 (.slice (some ⟨wi.heap.size, 0, none⟩) 1 1))).toList) (.mk 7 u0 [t2]) (.agg (nodeC 7 u0 (.slice (some ⟨wi.heap.size, 0, none⟩) 1 1)))) := Lib.hid (hnode.mono (fun b h => h) (fun b h _ => setCells_other h.2.2 _ _ _))
              have HTH : Hid ((wi.alloc (.cells (nodeC k2 u2 (.slice p2 n2 c2)) 27)).there b6 0 6) := Lib.hid fun j hj => ⟨by rw [Nat.zero_add, HSA.out.cell j]; rcases (by omega : j = 0 ∨ j = 1 ∨ j = 2 ∨ j = 3 ∨ j = 4 ∨ j = 5) with rfl | rfl | rfl | rfl | rfl | rfl <;> rfl, HSA.out.free (0 + j)⟩
              have HSN : Hid (Sb w ((wi.alloc (.cells (nodeC k2 u2 (.slice p2 n2 c2)) 27)).setCells b6 0 ((nodeC 7 u0 (.slice (some ⟨wi.heap.size, 0, none⟩) 1 1))).toList) [(b6, .cells (readC 7 u0 (.slice (some ⟨wi.heap.size, 0, none⟩) 1 1) (m3 : Nat) false) 53), (w.heap.size, .cells (readC 0 u0 (.slice none 0 0) 0 false) 53)]) := Lib.hid ⟨setCells_below (by omega) _ _ _ HSA.out.1, fun c hc => by
                simp only [List.mem_cons, List.not_mem_nil, or_false] at hc
                rcases hc with rfl | rfl
                · exact ⟨by simp; omega, by rw [setCells_heap _ _ _ _ HSA.out.heap, putA_R]⟩
                · exact ⟨Nat.le_refl _, (setCells_other (by simp; omega) _ _ _).trans HSA.out.tl.heap⟩⟩
              have HZN := Lib.hid (setCells_size (b := b6) ((nodeC 7 u0 (.slice (some ⟨wi.heap.size, 0, none⟩) 1 1))).toList 0 (wi.alloc (.cells (nodeC k2 u2 (.slice p2 n2 c2)) 27)))
              clear hnode HTS HT HS HV HSA HRP
              skip
              go_upto_region 14 with (first | (refine wpList_bknd (K := 7) (p := some ⟨wi.heap.size, 0, none⟩) (n := 1) (c := 1) rfl rfl rfl rfl ?_) | (refine wpList_plain rfl fun K hK => wp_store_mid 27 (.tmp 67) (.tmp 66) rfl b6 0 (nodeC 7 u0 (.slice (some ⟨wi.heap.size, 0, none⟩) 1 1)) rfl rfl HTH.out size27r (nodeC_one _ _ _ _ _) (hK _ _ ?_)))
              refine at_world (fun y => Sb w y [(b6, .cells (readC 7 u0 (.slice (some ⟨wi.heap.size, 0, none⟩) 1 1) (m3 : Nat) false) 53), (w.heap.size, .cells (readC 0 u0 (.slice none 0 0) 0 false) 53)] ∧ Thx b6 (w.heap.size + 1) ts u5 y ∧ RV (fun b => wo.heap.size ≤ b ∧ b < (wi.alloc (.cells (nodeC k2 u2 (.slice p2 n2 c2)) 27)).heap.size ∧ b ≠ b6) y (.mk 7 u0 [t2]) (.agg (nodeC 7 u0 (.slice (some ⟨wi.heap.size, 0, none⟩) 1 1))) ∧ y.heap.size = (wi.alloc (.cells (nodeC k2 u2 (.slice p2 n2 c2)) 27)).heap.size) ⟨HSN.out, HTA.out, HVN.out, HZN.out⟩ fun y3 hy3 => ?_
              have HS3 := Lib.hid hy3.1
              have HT3 := Lib.hid hy3.2.1
              have HV3 := Lib.hid (hy3.2.2.1.mono (E := fun b => wo.heap.size ≤ b ∧ b < y3.heap.size ∧ b ≠ b6) (w' := y3) (fun b h => ⟨h.1, by rw [hy3.2.2.2]; exact h.2.1, h.2.2⟩) (fun b h _ => rfl))
              clear hy3 HSN HTA HVN HZN HTH
              go_wp2_with fail
              go_roundw
              case rel => exact ⟨.mk 7 u0 [t2], r, 7, u0, some ⟨wi.heap.size, 0, none⟩, 1, 1, m2 + 1, m3, by go_num, HRP2, HT3, HS3, HSR, HMR, by simp at hq2; omega, by omega, HV3⟩
              case measure => simp [intOf]; omega
          · have hRS : reps t q1 = (t2, q2) := by
              rw [← HRP.out]
              rcases hst with rfl | ⟨c, r, rfl, hc⟩
              · rw [reps]
              · rw [reps, if_neg (by rw [hc]; simp)]
            have HR3 : Hid (thgs ch k (ts ++ [t2]) q2 = R) := Lib.hid (by have e := HR2.out; rw [hRS] at e; exact e)
            have hqq : (¬ (m2 : Int) < (s.size : Int)) ∨ ∃ c : UInt8, m2 < s.size ∧ (∀ h, s[m2]'h = c) ∧ ((c.toNat : Int) == 42) = false ∧ ((c.toNat : Int) == 43) = false ∧ ((c.toNat : Int) == 63) = false := by
              rcases hst with rfl | ⟨c, r, rfl, hc⟩
              · left; have := HM2.out; simp at this; omega
              · right
                have h1 := HSU2.out.lt
                have h2 := HSU2.out.get h1
                have h3 : ¬ (c = 42 ∨ c = 43 ∨ c = 63) := by intro e; rw [show rps.contains c = true by simp only [rps, List.contains_cons, List.contains_nil, Bool.or_false, Bool.or_eq_true, beq_iff_eq]; exact e] at hc; cases hc
                exact ⟨c, by have := HM2.out; omega, by have e := HM2.out; intro h; subst e; exact h2, u8f 42 (by omega) (fun e => h3 (.inl e)), u8f 43 (by omega) (fun e => h3 (.inr (.inl e))), u8f 63 (by omega) (fun e => h3 (.inr (.inr e)))⟩
            have HQ := Lib.hid hqq
            obtain ⟨xs, x1, x2, x3, x4, x5⟩ := HT.out
            have X3 := Lib.hid x3
            have X4 := Lib.hid (World.ownsRow.alloc x4 (.cells #[.int .i64 k2, .int .u64 (u2 0), .int .u64 (u2 1), .int .u64 (u2 2), .int .u64 (u2 3), .slice p2 n2 c2] 27))
            have hc0 : ∀ j u, ((nodeC k2 u2 (.slice p2 n2 c2))).toList[j]? = some u → (wi.alloc (.cells #[.int .i64 k2, .int .u64 (u2 0), .int .u64 (u2 1), .int .u64 (u2 2), .int .u64 (u2 3), .slice p2 n2 c2] 27)).cell? ((⟨wi.heap.size, 0, none⟩ : Addr).add j) = some u := fun j u hj => by
              rw [Addr.add_mid, cell_of_row _ wi.heap.size (0 + j) _ 27 (0, 0) (heap_alloc_last wi _), Nat.zero_add]
              rw [Array.getElem?_toList] at hj; exact hj
            have HC0 := Lib.hid hc0
            have hl7 := HSU2.out.len
            have hlen2 : ts.length ≤ 1001 := by omega
            have HYA := Lib.hid (show (wi.alloc (.cells #[.int .i64 k2, .int .u64 (u2 0), .int .u64 (u2 1), .int .u64 (u2 2), .int .u64 (u2 3), .slice p2 n2 c2] 27)).heap.size = wi.heap.size + 1 by simp)
            have hmm : m < m2 := by have := HM2.out; omega
            clear hqq hst hRS hc0 x3 x4 x5 HT HRP HR2
            rcases HQ.out with hl | ⟨c', hl, hg', d42, d43, d63⟩
            all_goals
              try have hl' : (m2 : Int) < (s.size : Int) := by omega
              go_wp2_with (at_builtin; refine wpList_append_own_at _ rfl (.tmp 70) (.tmp 73) 25 rfl (w.heap.size + 1) 27 i0 (.agg (nodeC 0 u0 (.slice none 0 0))) 6 64 Tryd.underlying25 hi hz0 hz1 hz2 rfl (by decide) u5 ts.length (flat xs) rfl ?c0 ⟨wi.heap.size, 0, none⟩ 1 1 ((nodeC k2 u2 (.slice p2 n2 c2))).toList rfl rfl ?c1 ?c2 ?c3 ?c4 ?c5 ?_)
              case c0 => exact X4.out
              case c1 => exact fun j u hu => by first | exact HC0.out j u hu | (rw [← Array.getElem?_toList] at hu; exact hu)
              case c2 => exact fun u hu => (Array.all_eq_true_iff_forall_mem.1 (nodeC_one k2 u2 p2 n2 c2)) u (by simpa using hu)
              case c3 => unfold maxLen; omega
              case c4 => have z2 := HYA.out; first | omega | (simp; omega)
              case c5 => have z2 := HYA.out; simp; omega
              intro v' w7 hown7 hgrow7 _ hat7
              have hya := HYA.out
              have hbase := fun g (hg : u5.ownBlock = some g) => (World.ownsRow.lt X4.out g hg).1
              have HTA : Hid (Th (w.heap.size + 1) (ts ++ [t2]) v' w7) := Lib.hid (Th.app (x := (nodeC k2 u2 (.slice p2 n2 c2))) (xs := xs) (lo := wo.heap.size) rfl x1 x2 (fun i hi hi' => (X3.out i hi hi').mono (fun b hb => ⟨hb.1, hb.2.1, hb.2.2.1⟩) (fun b hb _ => rfl)) rfl (by omega) hlo1.out (HV.out.mono (fun b h => ⟨h.1, h.2.1⟩) (fun b h _ => rfl)) hown7 hgrow7 (by rw [hya]; exact hat7))
              have HSA : Hid (Sb w w7 [(w.heap.size, .cells (readC 0 u0 (.slice none 0 0) 0 false) 53)]) := Lib.hid ⟨below_grown (B := w.heap.size) (HS.out.1.alloc HS.out.1.size (.cells #[.int .i64 k2, .int .u64 (u2 0), .int .u64 (u2 1), .int .u64 (u2 2), .int .u64 (u2 3), .slice p2 n2 c2] 27)) hgrow7 (fun g h => by have := hbase g h; omega) (by rw [hya]; omega), fun c hc => by
                have hc1 := HS.out.2 c (List.mem_cons_of_mem _ hc)
                refine ⟨hc1.1, ?_⟩
                have h2 := (Array.getElem?_eq_some_iff.1 hc1.2).1
                have h3 : (wi.alloc (.cells #[.int .i64 k2, .int .u64 (u2 0), .int .u64 (u2 1), .int .u64 (u2 2), .int .u64 (u2 3), .slice p2 n2 c2] 27)).heap[c.1]? = some c.2 := (heap_alloc_old wi _ h2).trans hc1.2
                refine (hgrow7.block c.1 (by rw [hya]; omega) (fun e => ?_)).trans h3
                simp only [List.mem_cons, List.not_mem_nil, or_false] at hc
                subst hc
                have := hbase _ e.symm; simp at this; omega⟩
              clear hya hown7 hgrow7 hat7 hbase X3 X4 x1 x2 HC0
              go_wp2_with fail
              go_roundw
              case rel => exact ⟨ts ++ [t2], q2, k, m2, rfl, HR3, HTA, HSA, HSU2, HM2, by omega, hms2, by (try simp only [List.length_cons] at hlen); (try simp only [List.length_cons] at hla); simp only [List.length_append, List.length_cons, List.length_nil]; omega⟩
              case measure => simp [intOf]; omega
end Go.Proofs.YtmjojahkbjlcdaaDoor
