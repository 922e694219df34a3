/- Texts of package regs, one behind the other. -/
import Derived.Test.YthglciccejholaaDoorProg
import Derived.Test.YthglciccejholaaDoorLe
import Derived.Test.YthglciccejholaaDoorV43
import Derived.WalkKit
import Derived.WalkLawsBesides
import Derived.WalkSpells
import Derived.Outline
import Derived.Lib.Walk
import Derived.Lib.Hide
import Derived.Lib.Slices
import Derived.Lib.Strings
import Derived.RegionTactic
import Derived.LoopTactic
import Derived.Below
import Derived.IntWalk
import Derived.Deep.QuietTactic
import Derived.BigQuiet
import Derived.Deep.MidRow
import Derived.Maps.AppendAt
import Derived.Laws.Rows
import Derived.Laws.Tables
import Derived.Deep.WholeRow
import Derived.Deep.Cut
import Derived.Deep.CutRange
import Derived.Lib.SliceRun
import Derived.Laws.MakeOwn
import Derived.Deep.RegionLaw
import Derived.Deep.RegionLawGrows
import Derived.Deep.RegionHeld3
import Derived.RegionCalls
import Derived.Deep.RegionWith
import Derived.Deep.Light
section
/- Package nfa. -/
namespace Go.Proofs.YthglciccejholaaDoor
set_option linter.unusedSimpArgs false
set_option linter.unusedVariables false
set_option maxRecDepth 100000
open Go.RowKit
/- What is laid of several, one of which matches. -/
theorem rv_part {D : Nat → Prop} {w : World} {ps : List RT} {p : Option Addr} {c : Nat} {k : Int} {u : Nat → Int} (h : RV D w (.mk k u ps) (.agg (nodeC k u (.slice p ps.length c)))) (hn : ps ≠ []) : ∃ b o, p = some ⟨b, o, none⟩ ∧ D b ∧ ∀ i (hi : i < ps.length), ∃ k2 u2 p2 n2 c2, RV D w ps[i] (.agg (nodeC k2 u2 (.slice p2 n2 c2))) ∧ ∀ j v, (nodeC k2 u2 (.slice p2 n2 c2))[j]? = some v → w.cell? ⟨b, o + i * 6 + j, none⟩ = some v := by
  obtain ⟨p', c', he, hh⟩ := h.parts
  have he2 : Value.slice p ps.length c = .slice p' ps.length c' := by
    have := he
    simp only [nodeC, Value.agg.injEq] at this
    have h5 := congrArg (fun x : Array Value => x[5]?) this
    simpa using h5
  cases he2
  obtain ⟨b, o, rfl, hD, hx⟩ := hh hn
  refine ⟨b, o, rfl, hD, fun i hi => ?_⟩
  obtain ⟨k2, u2, p2, n2, c2, hv, hc⟩ := hx i hi
  exact ⟨k2, u2, p2, n2, c2, hv, fun j v hj => by
    have := hc j v hj
    rw [show o + i * 6 + j = o + (6 * i + j) by omega]; exact this⟩
def Kept (P : Nat → Prop) (y w : World) : Prop := ∀ b, P b → w.heap[b]? = y.heap[b]?
def OffP (P : Nat → Prop) (a : Value) : Prop := ∀ g, a.ownBlock = some g → ¬ P g
set_option maxHeartbeats 16000000 in
theorem choice_any {B : Nat} {P : Nat → Prop} {w0 y : World} {bb : Nat} {ss : List Nq} {sl : Value} {ps : List RT} {kk : Int} {uu : Nat → Int} {t : Int} {p : Option Addr} {c : Nat} (IH : ∀ q ∈ ps, LayOK q) (h : BB B P w0 y bb ss sl) (hlen : ss.length + szL ps * 8192 + 8192 ≤ 900000000) (hsz : szL ps ≤ 4090) (hv : RV P y (.mk kk uu ps) (.agg (nodeC kk uu (.slice p ps.length c)))) :
    Calls Tryd.prog 78 #[.pointer (some ⟨bb, 0, none⟩), .slice p ps.length c, .int .i64 t] y (LayPost B P w0 y bb ss ((layA ps t ss.length).1 ++ [⟨uZ, -1, (layA ps t ss.length).2, -1⟩], ((ss.length + (layA ps t ss.length).1.length : Nat) : Int))) := by
  obtain ⟨i0, hi, hz0, hz1, hz2⟩ := info_parts info3
  have hbB := h.sz
  have HRV := Lib.hid hv
  have HPR := Lib.hid fun b (hp : P b) => (h.pr b hp).1
  obtain ⟨R, hR⟩ : ∃ R, layA ps t ss.length = R := ⟨_, rfl⟩
  have hll := layA_len ps t ss.length
  have hpl := len_szL ps
  rw [hR] at hll ⊢
  have HLL := Lib.hid hll
  have HR0 : Hid ((([] : List Nq).map (fun q : Nq => q.1) ++ (layA (ps.drop 0) t (ss.length + ([] : List Nq).length)).1, ([] : List Int) ++ (layA (ps.drop 0) t (ss.length + ([] : List Nq).length)).2) = R) := Lib.hid (by simpa using hR)
  have HB0 : Hid (BB B (fun b => P b ∨ some b = (Value.slice none 0 0).ownBlock) w0 y bb (ss ++ []) sl) := Lib.hid (by rw [List.append_nil]; exact ⟨h.bel, h.f, h.ts.sub fun b hb => hb.elim .inl (fun e => by simp [Value.ownBlock] at e), h.hb, h.sb, h.sz, fun b hb => hb.elim (h.pr b) (fun e => by simp [Value.ownBlock] at e)⟩)
  have HK0 : Hid (Kept P y y) := Lib.hid fun _ _ => rfl
  have HO0 : Hid (OffP P (.slice none 0 0)) := Lib.hid fun g hg => by simp [Value.ownBlock] at hg
  have HW0 : Hid (y.ownsRow B 3 1 (.slice none 0 0) ([] : List Int).length (([] : List Int).map fun x => .int .i64 x)) := Lib.hid ⟨rfl, .inl ⟨rfl, rfl⟩⟩
  clear h hv hR hll
  go_enter Tryd.func78, Tryd.ntmps78
  go_wp2_with fail
  go_loopw [7, 12] (fun a i wr => ∃ (j : Nat) (zs : List Nq) (fs : List Int) (sl : Value), i = .int .i64 (j : Nat) ∧ j ≤ ps.length ∧ Hid ((zs.map (fun q : Nq => q.1) ++ (layA (ps.drop j) t (ss.length + zs.length)).1, fs ++ (layA (ps.drop j) t (ss.length + zs.length)).2) = R) ∧ Hid (BB B (fun b => P b ∨ some b = a.ownBlock) w0 wr bb (ss ++ zs) sl) ∧ Hid (wr.ownsRow B 3 1 a fs.length (fs.map fun x => .int .i64 x)) ∧ Hid (Kept P y wr) ∧ Hid (OffP P a) ∧ fs.length = j) (fun _ i _ => ps.length - (intOf i).toNat)
  case atStart => exact ⟨0, [], [], sl, rfl, by omega, HR0, HB0, HW0, HK0, HO0, rfl⟩
  case round =>
  clear HR0 HB0 HW0 HK0 HO0
  obtain ⟨j, zs, fs, sl, rfl, hj, HF, HB, HW, HK, HO, hfl⟩ := hrel
  obtain ⟨wo, rfl⟩ : ∃ wo : World, wo = wr := ⟨_, rfl⟩
  obtain ⟨p6, c6, hu6, hcells6⟩ := iv_rowI HW.out
  subst hu6
  have HFL := Lib.hid hfl
  have hzb : zs.length ≤ R.1.length := by rw [← HF.out]; simp
  have HZB := Lib.hid hzb
  have hfb : fs.length ≤ 900000000 := by omega
  clear hfl hzb
  by_cases hlt : j < ps.length
  · obtain ⟨b, o, rfl, hPb, hx⟩ := rv_part HRV.out (by intro e; subst e; simp at hlt)
    obtain ⟨k, u, p2, n, c2, hpv, hcell⟩ := hx j hlt
    have ce : ∀ i v, (nodeC k u (.slice p2 n c2))[i]? = some v → wo.cell? ⟨b, o + j * 6 + i, none⟩ = some v := fun i v hv => (cell_same (HK.out b hPb) _).trans (hcell i v hv)
    have d0 : wo.cell? ⟨b, o + j * 6, none⟩ = some (.int .i64 k) := ce 0 _ rfl
    have d1 : wo.cell? ⟨b, o + j * 6 + 1, none⟩ = some (.int .u64 (u 0)) := ce 1 _ rfl
    have d2 : wo.cell? ⟨b, o + j * 6 + 2, none⟩ = some (.int .u64 (u 1)) := ce 2 _ rfl
    have d3 : wo.cell? ⟨b, o + j * 6 + 3, none⟩ = some (.int .u64 (u 2)) := ce 3 _ rfl
    have d4 : wo.cell? ⟨b, o + j * 6 + 4, none⟩ = some (.int .u64 (u 3)) := ce 4 _ rfl
    have d5 : wo.cell? ⟨b, o + j * 6 + 5, none⟩ = some (.slice p2 n c2) := ce 5 _ rfl
    have hszj : sz ps[j] + 1 ≤ szL ps + 1 := by
      have : ∀ (l : List RT) (i : Nat) (h : i < l.length), sz l[i] ≤ szL l := fun l => by
        induction l with
        | nil => intro i h; simp at h
        | cons a r ih =>
          intro i h
          rw [szL]
          cases i with
          | zero => simp
          | succ i => have := ih i (by simpa using h); simp; omega
      have := this ps j hlt
      omega
    have hfold : (zs.map (fun q : Nq => q.1) ++ (layF ps[j] t (ss.length + zs.length)).1 ++ (layA (ps.drop (j + 1)) t (ss.length + zs.length + (layF ps[j] t (ss.length + zs.length)).1.length)).1, fs ++ [(layF ps[j] t (ss.length + zs.length)).2] ++ (layA (ps.drop (j + 1)) t (ss.length + zs.length + (layF ps[j] t (ss.length + zs.length)).1.length)).2) = R := by
      rw [← HF.out, List.drop_eq_getElem_cons hlt, layA]
      simp
    have hb1 := (Below.refl wo.heap.size wo).alloc (Nat.le_refl _) (.cells #[.int .i64 k, .int .u64 (u 0), .int .u64 (u 1), .int .u64 (u 2), .int .u64 (u 3), .slice p2 n c2] 27)
    have hL := IH ps[j] (List.getElem_mem hlt) (b := t) (HB.out.up hb1) (by have := HLL.out; have := HZB.out; rw [List.length_append]; omega) (hpv.mono (E := fun b => P b ∨ some b = (Value.slice p6 fs.length c6).ownBlock) (w' := wo.alloc (.cells #[.int .i64 k, .int .u64 (u 0), .int .u64 (u 1), .int .u64 (u 2), .int .u64 (u 3), .slice p2 n c2] 27)) (fun b h => .inl h) (fun b hp _ => (hb1.block b (HB.out.pr b (.inl hp)).1).trans (HK.out b hp)))
    unfold LayPost at hL
    rw [List.length_append] at hL
    obtain ⟨L, hLe⟩ : ∃ L, layF ps[j] t (ss.length + zs.length) = L := ⟨_, rfl⟩
    rw [hLe] at hL hfold
    have HL := Lib.hid hL
    have HFO := Lib.hid hfold
    have HWA := Lib.hid (World.ownsRow.alloc HW.out (.cells #[.int .i64 k, .int .u64 (u 0), .int .u64 (u 1), .int .u64 (u 2), .int .u64 (u 3), .slice p2 n c2] 27))
    have HKA := Lib.hid fun b (hp : P b) => (hb1.block b (HB.out.pr b (.inl hp)).1).trans (HK.out b hp)
    have hltI : (j : Int) < (ps.length : Int) := by omega
    have hjI : ¬ (j : Int) < 0 := by omega
    clear hx hpv hcell ce hfold hL hb1 hcells6 HB HW HF HK hLe hszj
    unfold nodeC at HL
    go_wp2_with fail
    refine HL.out.mono ?_
    rintro _ y6 ⟨rfl, ⟨sl6, zs6, h6, he6⟩, hk6⟩
    have hrow6 := own_same (w' := y6) HWA.out (fun g hg => hk6 g (.inr hg.symm))
    have X4 := Lib.hid (World.ownsRow.alloc hrow6 (.cells #[.int .i64 L.2] 3))
    have H6 := Lib.hid h6
    have HE6 := Lib.hid he6
    have HK6 := Lib.hid fun b (hp : P b) => (hk6 b (.inl hp)).trans (HKA.out b hp)
    have hya : (y6.alloc (.cells #[.int .i64 L.2] 3)).heap.size = y6.heap.size + 1 := by simp
    have HYA := Lib.hid hya
    clear hrow6 h6 he6 hk6 HL HWA HKA d0 d1 d2 d3 d4 d5 hya
    go_wp2_with (at_builtin; refine wpList_append_own_at _ rfl (.tmp 16) (.tmp 21) 39 rfl B 3 i0 (.int .i64 0) 1 8 Tryd.underlying39 hi hz0 hz1 hz2 rfl (by decide) (.slice p6 fs.length c6) fs.length (fs.map fun x => .int .i64 x) rfl ?c0 ⟨y6.heap.size, 0, none⟩ 1 1 [.int .i64 L.2] rfl rfl ?c1 ?c2 ?c3 ?c4 ?c5 ?_)
    case c0 => exact X4.out
    case c1 => exact cell_one_new _ _ _
    case c2 => simp [Value.oneCell']
    case c3 => unfold maxLen; omega
    case c4 => omega
    case c5 => have := HYA.out; have := H6.out.sz; omega
    intro v' w7 hown7 hgrow7 _ hat7
    have hya := HYA.out
    have hrow7 : w7.ownsRow B 3 1 v' (fs ++ [L.2]).length ((fs ++ [L.2]).map fun x => .int .i64 x) := by
      rw [List.length_append, List.map_append]; exact hown7
    have hB7 : BB B (fun b => P b ∨ some b = v'.ownBlock) w0 w7 bb (ss ++ (zs ++ zs6)) sl6 := by
      have h9 := H6.out.grow (Q := fun b => P b ∨ some b = v'.ownBlock) _ hgrow7 (fun g hg => ⟨.inr hg.symm, (World.ownsRow.lt X4.out g hg).1⟩) (fun b hb => by
        rcases hb with hb | hb
        · exact ⟨.inl (.inl hb), by have := (H6.out.pr b (.inl hb)).1; have := hgrow7.size; omega⟩
        · refine ⟨?_, (World.ownsRow.lt hown7 b hb.symm).2⟩
          rcases hat7 with e | e
          · exact .inl (.inr (hb.trans e))
          · rw [e] at hb
            exact .inr (by have := Option.some.inj hb; omega))
      rw [List.append_assoc] at h9
      exact h9
    have hK7 : Kept P y w7 := fun b hp => by
      have h1 := (H6.out.pr b (.inl hp)).1
      rw [hgrow7.block b (by omega) (fun e => HO.out b e.symm hp), heap_alloc_old y6 _ h1, HK6.out b hp]
    have hO7 : OffP P v' := fun g hg hp => by
      rcases hat7 with e | e
      · exact HO.out g (e.symm.trans hg) hp
      · rw [e] at hg
        have := (H6.out.pr g (.inl hp)).1
        have := Option.some.inj hg
        omega
    have hz6 : zs6.length = L.1.length := by rw [← HE6.out]; simp
    have hfo : ((zs ++ zs6).map (fun q : Nq => q.1) ++ (layA (ps.drop (j + 1)) t (ss.length + (zs ++ zs6).length)).1, (fs ++ [L.2]) ++ (layA (ps.drop (j + 1)) t (ss.length + (zs ++ zs6).length)).2) = R := by
      rw [List.map_append, HE6.out, List.length_append, hz6, ← Nat.add_assoc]; exact HFO.out
    have hfl7 : (fs ++ [L.2]).length = j + 1 := by simp [HFL.out]
    have HB7 := Lib.hid hB7
    have HF7 := Lib.hid hfo
    have HW7 := Lib.hid hrow7
    have HK7 := Lib.hid hK7
    have HO7 := Lib.hid hO7
    have HFL7 := Lib.hid hfl7
    generalize zs ++ zs6 = zs7 at *
    generalize fs ++ [L.2] = fs7 at *
    obtain ⟨p7, c7, rfl⟩ := row_form hown7
    clear hrow7 hB7 hfo hK7 hO7 hfl7 hown7 hgrow7 hat7 X4 H6 HE6 HK6 HFO hz6 hya HO
    go_wp2_with fail
    go_roundw
    case rel => exact ⟨j + 1, zs7, fs7, sl6, by go_num, by omega, HF7, HB7, HW7, HK7, HO7, HFL7.out⟩
    case measure => simp [intOf]; omega
  · obtain rfl : j = ps.length := by omega
    have hR : R = (zs.map (fun q : Nq => q.1), fs) := by rw [← HF.out, List.drop_length]; simp [layA]
    subst hR
    have hltI : ¬ (ps.length : Int) < (ps.length : Int) := by omega
    have HIV : IVf (fun b => B ≤ b ∧ b < wo.heap.size ∧ some b ≠ sl.ownBlock ∧ b ≠ bb ∧ ¬ P b) wo fs (.slice p6 fs.length c6) := ⟨p6, c6, rfl, fun hn => by
      obtain ⟨g, rfl, hg1, hg2, hg3⟩ := hcells6 hn
      have hp := HB.out.pr g (.inr rfl)
      exact ⟨g, 0, rfl, ⟨hg1, hg2, hp.2.2, hp.2.1, HO.out g rfl⟩, hg3, own_fz HW.out⟩⟩
    have hF := free_any (HB.out.less (Q := P) (fun b h => .inl h)) (by have := HLL.out; have := HZB.out; rw [List.length_append]; omega) HIV
    rw [List.length_append] at hF
    have HC := Lib.hid hF
    clear HIV hcells6 HF HW hF HB HO
    go_wp2_with fail
    refine HC.out.mono ?_
    rintro _ y1 ⟨rfl, ⟨sl1, h1⟩, hk1⟩
    have H1 := Lib.hid h1
    have HK1 := Lib.hid fun b (hp : P b) => (hk1 b hp).trans (HK.out b hp)
    clear h1 hk1 HC HK
    go_wp2_with fail
    go_ret
    refine ⟨by simp, ⟨sl1, zs ++ [(⟨uZ, -1, fs, -1⟩, p6, c6)], by rw [← List.append_assoc]; exact H1.out, by simp⟩, HK1.out⟩
end Go.Proofs.YthglciccejholaaDoor
end
section
/- Package nfa. -/
namespace Go.Proofs.YthglciccejholaaDoor
set_option linter.unusedSimpArgs false
set_option linter.unusedVariables false
set_option maxRecDepth 100000
open Go.RowKit
/- matchesSome of any pattern. -/
mutual
def msF : RT → Bool
  | .mk k u ps => if k = 0 then false else if k = 2 then !zeroU u else if k = 3 ∨ k = 6 then msAll ps else if k = 4 then msAny ps else true
def msAll : List RT → Bool
  | [] => true
  | q :: r => msF q && msAll r
def msAny : List RT → Bool
  | [] => false
  | q :: r => msF q || msAny r
end
theorem msAll_eq : ∀ ps, msAll ps = ps.all msF
  | [] => rfl
  | q :: r => by rw [msAll, List.all_cons, msAll_eq r]
theorem msAny_eq : ∀ ps, msAny ps = ps.any msF
  | [] => rfl
  | q :: r => by rw [msAny, List.any_cons, msAny_eq r]
theorem any_drop {f : RT → Bool} {ps : List RT} {j : Nat} (h : j < ps.length) : (ps.drop j).any f = (f ps[j] || (ps.drop (j + 1)).any f) := by
  rw [List.drop_eq_getElem_cons h, List.any_cons]
set_option maxHeartbeats 8000000 in
theorem index_66 {D : Nat → Prop} {w : World} {ps : List RT} {kk : Int} {uu : Nat → Int} {p : Option Addr} {c : Nat} (f : RT → Bool) (hD : ∀ b, D b → b < w.heap.size) (hl : ps.length ≤ 1000000) (hv : RV D w (.mk kk uu ps) (.agg (nodeC kk uu (.slice p ps.length c))))
    (HG : Hid (∀ q ∈ ps, ∀ z v, Below w.heap.size w z → RV D z q v → Calls Tryd.prog 109 #[v] z fun e z' => e = .returned (.bool (f q)) ∧ Below z.heap.size z z')) :
    Calls Tryd.prog 120 #[.slice p ps.length c, .func (.func 109) #[] #[]] w fun e w' => (∃ i : Int, e = .returned (.int .i64 i) ∧ decide (0 ≤ i) = ps.any f) ∧ Below w.heap.size w w' := by
  have HRV := Lib.hid hv
  have HD := Lib.hid hD
  have S0 := Lib.hid (Below.refl w.heap.size w)
  obtain ⟨R, hR⟩ : ∃ R, ps.any f = R := ⟨_, rfl⟩
  rw [hR]
  have HR0 : Hid ((ps.drop 0).any f = R) := Lib.hid (by rw [List.drop_zero]; exact hR)
  clear hv hD hR
  go_enter Tryd.func120, Tryd.ntmps120
  go_wp2_with fail
  go_loopw [8] (fun i wr => ∃ j : Nat, i = .int .i64 (j : Nat) ∧ j ≤ ps.length ∧ Hid ((ps.drop j).any f = R) ∧ Hid (Below w.heap.size w wr)) (fun i _ => ps.length - (intOf i).toNat)
  case atStart => exact ⟨0, rfl, by omega, HR0, S0⟩
  case round =>
  clear HR0 S0
  obtain ⟨j, rfl, hj, HR, HS⟩ := hrel
  obtain ⟨wo, rfl⟩ : ∃ wo : World, wo = wr := ⟨_, rfl⟩
  by_cases hlt : j < ps.length
  · obtain ⟨b, o, rfl, hPb, hx⟩ := rv_part HRV.out (by intro e; subst e; simp at hlt)
    obtain ⟨k, u, p2, n, c2, hpv, hcell⟩ := hx j hlt
    have hbw := HD.out b hPb
    have ce : ∀ i v, (nodeC k u (.slice p2 n c2))[i]? = some v → wo.cell? ⟨b, o + j * 6 + i, none⟩ = some v := fun i v hv => (cell_same (HS.out.block b hbw) _).trans (hcell i v hv)
    have d0 : wo.cell? ⟨b, o + j * 6, none⟩ = some (.int .i64 k) := ce 0 _ rfl
    have d1 : wo.cell? ⟨b, o + j * 6 + 1, none⟩ = some (.int .u64 (u 0)) := ce 1 _ rfl
    have d2 : wo.cell? ⟨b, o + j * 6 + 2, none⟩ = some (.int .u64 (u 1)) := ce 2 _ rfl
    have d3 : wo.cell? ⟨b, o + j * 6 + 3, none⟩ = some (.int .u64 (u 2)) := ce 3 _ rfl
    have d4 : wo.cell? ⟨b, o + j * 6 + 4, none⟩ = some (.int .u64 (u 3)) := ce 4 _ rfl
    have d5 : wo.cell? ⟨b, o + j * 6 + 5, none⟩ = some (.slice p2 n c2) := ce 5 _ rfl
    have hC := HG.out ps[j] (List.getElem_mem hlt) wo _ HS.out (hpv.mono (w' := wo) (fun b h => h) (fun b hb _ => HS.out.block b (HD.out b hb)))
    have hdr := any_drop (f := f) hlt
    rw [HR.out] at hdr
    obtain ⟨fj, hfj⟩ : ∃ fj, f ps[j] = fj := ⟨_, rfl⟩
    rw [hfj] at hC hdr
    unfold nodeC at hC
    have HC := Lib.hid hC
    have HDR := Lib.hid hdr
    have hltI : (j : Int) < (ps.length : Int) := by omega
    have hjI : ¬ (j : Int) < 0 := by omega
    clear hx hpv hcell ce hC hdr hfj HR
    go_wp2_with fail
    refine HC.out.mono ?_
    rintro _ y1 ⟨rfl, hb1⟩
    have HS1 := Lib.hid (HS.out.trans (hb1.mono HS.out.size))
    clear hb1 HC d0 d1 d2 d3 d4 d5 HS
    cases fj with
    | true =>
      have HR1 : Hid (R = true) := Lib.hid (by rw [HDR.out, Bool.true_or])
      clear HDR
      go_wp2_with fail
      go_ret
      exact ⟨⟨(j : Int), rfl, by rw [HR1.out]; simp⟩, HS1.out⟩
    | false =>
      have HR1 : Hid ((ps.drop (j + 1)).any f = R) := Lib.hid (by rw [HDR.out, Bool.false_or])
      clear HDR
      go_wp2_with fail
      go_roundw
      case rel => exact ⟨j + 1, by go_num, by omega, HR1, HS1⟩
      case measure => simp [intOf]; omega
  · obtain rfl : j = ps.length := by omega
    have HR1 : Hid (R = false) := Lib.hid (by rw [← HR.out, List.drop_length]; rfl)
    have hltI : ¬ (ps.length : Int) < (ps.length : Int) := by omega
    clear HR
    go_wp2_with fail
    go_ret
    exact ⟨⟨-1, rfl, by rw [HR1.out]; rfl⟩, HS.out⟩
set_option maxHeartbeats 4000000 in
theorem contains_66 {D : Nat → Prop} {w : World} {ps : List RT} {kk : Int} {uu : Nat → Int} {p : Option Addr} {c : Nat} (f : RT → Bool) (hD : ∀ b, D b → b < w.heap.size) (hl : ps.length ≤ 1000000) (hv : RV D w (.mk kk uu ps) (.agg (nodeC kk uu (.slice p ps.length c))))
    (HG : Hid (∀ q ∈ ps, ∀ z v, Below w.heap.size w z → RV D z q v → Calls Tryd.prog 109 #[v] z fun e z' => e = .returned (.bool (f q)) ∧ Below z.heap.size z z')) :
    Calls Tryd.prog 108 #[.slice p ps.length c, .func (.func 109) #[] #[]] w fun e w' => e = .returned (.bool (ps.any f)) ∧ Below w.heap.size w w' := by
  have HC := Lib.hid (index_66 f hD hl hv HG)
  obtain ⟨R, hR⟩ : ∃ R, ps.any f = R := ⟨_, rfl⟩
  rw [hR] at HC ⊢
  clear hv hD HG hR
  go_enter Tryd.func108, Tryd.ntmps108
  go_wp2_with fail
  refine HC.out.mono ?_
  rintro _ y1 ⟨⟨i, rfl, hi⟩, hb1⟩
  have HI := Lib.hid hi
  have HB := Lib.hid hb1
  clear hi hb1 HC
  by_cases h0 : 0 ≤ i
  · go_wp2_with fail
    go_ret
    exact ⟨vbool6 (by first | (rw [← HI.out]; done) | (rw [← HI.out]; simp [h0])), HB.out⟩
  · go_wp2_with fail
    go_ret
    exact ⟨vbool6 (by first | (rw [← HI.out]; done) | (rw [← HI.out]; simp [h0])), HB.out⟩
set_option maxHeartbeats 8000000 in
theorem index_53 {D : Nat → Prop} {w : World} {ps : List RT} {kk : Int} {uu : Nat → Int} {p : Option Addr} {c : Nat} (f : RT → Bool) (hD : ∀ b, D b → b < w.heap.size) (hl : ps.length ≤ 1000000) (hv : RV D w (.mk kk uu ps) (.agg (nodeC kk uu (.slice p ps.length c))))
    (HG : Hid (∀ q ∈ ps, ∀ z v, Below w.heap.size w z → RV D z q v → Calls Tryd.prog 75 #[v] z fun e z' => e = .returned (.bool (f q)) ∧ Below z.heap.size z z')) :
    Calls Tryd.prog 120 #[.slice p ps.length c, .func (.func 75) #[] #[]] w fun e w' => (∃ i : Int, e = .returned (.int .i64 i) ∧ decide (0 ≤ i) = ps.any f) ∧ Below w.heap.size w w' := by
  have HRV := Lib.hid hv
  have HD := Lib.hid hD
  have S0 := Lib.hid (Below.refl w.heap.size w)
  obtain ⟨R, hR⟩ : ∃ R, ps.any f = R := ⟨_, rfl⟩
  rw [hR]
  have HR0 : Hid ((ps.drop 0).any f = R) := Lib.hid (by rw [List.drop_zero]; exact hR)
  clear hv hD hR
  go_enter Tryd.func120, Tryd.ntmps120
  go_wp2_with fail
  go_loopw [8] (fun i wr => ∃ j : Nat, i = .int .i64 (j : Nat) ∧ j ≤ ps.length ∧ Hid ((ps.drop j).any f = R) ∧ Hid (Below w.heap.size w wr)) (fun i _ => ps.length - (intOf i).toNat)
  case atStart => exact ⟨0, rfl, by omega, HR0, S0⟩
  case round =>
  clear HR0 S0
  obtain ⟨j, rfl, hj, HR, HS⟩ := hrel
  obtain ⟨wo, rfl⟩ : ∃ wo : World, wo = wr := ⟨_, rfl⟩
  by_cases hlt : j < ps.length
  · obtain ⟨b, o, rfl, hPb, hx⟩ := rv_part HRV.out (by intro e; subst e; simp at hlt)
    obtain ⟨k, u, p2, n, c2, hpv, hcell⟩ := hx j hlt
    have hbw := HD.out b hPb
    have ce : ∀ i v, (nodeC k u (.slice p2 n c2))[i]? = some v → wo.cell? ⟨b, o + j * 6 + i, none⟩ = some v := fun i v hv => (cell_same (HS.out.block b hbw) _).trans (hcell i v hv)
    have d0 : wo.cell? ⟨b, o + j * 6, none⟩ = some (.int .i64 k) := ce 0 _ rfl
    have d1 : wo.cell? ⟨b, o + j * 6 + 1, none⟩ = some (.int .u64 (u 0)) := ce 1 _ rfl
    have d2 : wo.cell? ⟨b, o + j * 6 + 2, none⟩ = some (.int .u64 (u 1)) := ce 2 _ rfl
    have d3 : wo.cell? ⟨b, o + j * 6 + 3, none⟩ = some (.int .u64 (u 2)) := ce 3 _ rfl
    have d4 : wo.cell? ⟨b, o + j * 6 + 4, none⟩ = some (.int .u64 (u 3)) := ce 4 _ rfl
    have d5 : wo.cell? ⟨b, o + j * 6 + 5, none⟩ = some (.slice p2 n c2) := ce 5 _ rfl
    have hC := HG.out ps[j] (List.getElem_mem hlt) wo _ HS.out (hpv.mono (w' := wo) (fun b h => h) (fun b hb _ => HS.out.block b (HD.out b hb)))
    have hdr := any_drop (f := f) hlt
    rw [HR.out] at hdr
    obtain ⟨fj, hfj⟩ : ∃ fj, f ps[j] = fj := ⟨_, rfl⟩
    rw [hfj] at hC hdr
    unfold nodeC at hC
    have HC := Lib.hid hC
    have HDR := Lib.hid hdr
    have hltI : (j : Int) < (ps.length : Int) := by omega
    have hjI : ¬ (j : Int) < 0 := by omega
    clear hx hpv hcell ce hC hdr hfj HR
    go_wp2_with fail
    refine HC.out.mono ?_
    rintro _ y1 ⟨rfl, hb1⟩
    have HS1 := Lib.hid (HS.out.trans (hb1.mono HS.out.size))
    clear hb1 HC d0 d1 d2 d3 d4 d5 HS
    cases fj with
    | true =>
      have HR1 : Hid (R = true) := Lib.hid (by rw [HDR.out, Bool.true_or])
      clear HDR
      go_wp2_with fail
      go_ret
      exact ⟨⟨(j : Int), rfl, by rw [HR1.out]; simp⟩, HS1.out⟩
    | false =>
      have HR1 : Hid ((ps.drop (j + 1)).any f = R) := Lib.hid (by rw [HDR.out, Bool.false_or])
      clear HDR
      go_wp2_with fail
      go_roundw
      case rel => exact ⟨j + 1, by go_num, by omega, HR1, HS1⟩
      case measure => simp [intOf]; omega
  · obtain rfl : j = ps.length := by omega
    have HR1 : Hid (R = false) := Lib.hid (by rw [← HR.out, List.drop_length]; rfl)
    have hltI : ¬ (ps.length : Int) < (ps.length : Int) := by omega
    clear HR
    go_wp2_with fail
    go_ret
    exact ⟨⟨-1, rfl, by rw [HR1.out]; rfl⟩, HS.out⟩
set_option maxHeartbeats 4000000 in
theorem contains_53 {D : Nat → Prop} {w : World} {ps : List RT} {kk : Int} {uu : Nat → Int} {p : Option Addr} {c : Nat} (f : RT → Bool) (hD : ∀ b, D b → b < w.heap.size) (hl : ps.length ≤ 1000000) (hv : RV D w (.mk kk uu ps) (.agg (nodeC kk uu (.slice p ps.length c))))
    (HG : Hid (∀ q ∈ ps, ∀ z v, Below w.heap.size w z → RV D z q v → Calls Tryd.prog 75 #[v] z fun e z' => e = .returned (.bool (f q)) ∧ Below z.heap.size z z')) :
    Calls Tryd.prog 108 #[.slice p ps.length c, .func (.func 75) #[] #[]] w fun e w' => e = .returned (.bool (ps.any f)) ∧ Below w.heap.size w w' := by
  have HC := Lib.hid (index_53 f hD hl hv HG)
  obtain ⟨R, hR⟩ : ∃ R, ps.any f = R := ⟨_, rfl⟩
  rw [hR] at HC ⊢
  clear hv hD HG hR
  go_enter Tryd.func108, Tryd.ntmps108
  go_wp2_with fail
  refine HC.out.mono ?_
  rintro _ y1 ⟨⟨i, rfl, hi⟩, hb1⟩
  have HI := Lib.hid hi
  have HB := Lib.hid hb1
  clear hi hb1 HC
  by_cases h0 : 0 ≤ i
  · go_wp2_with fail
    go_ret
    exact ⟨vbool6 (by first | (rw [← HI.out]; done) | (rw [← HI.out]; simp [h0])), HB.out⟩
  · go_wp2_with fail
    go_ret
    exact ⟨vbool6 (by first | (rw [← HI.out]; done) | (rw [← HI.out]; simp [h0])), HB.out⟩
end Go.Proofs.YthglciccejholaaDoor
end
