/- Texts of package regs, one behind the other. -/
import Derived.Test.YtnhfeakndofokaaProg
import Derived.Test.YtnhfeakndofokaaMp
import Derived.WalkKit
import Derived.WalkLawsBesides
import Derived.WalkSpells
import Derived.Outline
import Derived.Lib.Walk
import Derived.Lib.Hide
import Derived.Lib.Slices
import Derived.Lib.Strings
import Derived.RegionTactic
import Derived.LoopTactic
import Derived.Below
import Derived.IntWalk
import Derived.Deep.QuietTactic
import Derived.BigQuiet
import Derived.Deep.MidRow
import Derived.Maps.AppendAt
import Derived.Laws.Rows
import Derived.Laws.Tables
import Derived.Deep.WholeRow
import Derived.Deep.Cut
import Derived.Deep.CutRange
import Derived.Lib.SliceRun
import Derived.Laws.MakeOwn
import Derived.Deep.RegionLaw
import Derived.Deep.RegionLawGrows
import Derived.Deep.RegionHeld3
import Derived.RegionCalls
import Derived.Deep.RegionWith
import Derived.Deep.Light
import Derived.Laws.CopyOwn
import Derived.Laws.ResultCell
import Derived.Test.YtnhfeakndofokaaY50
import Derived.Test.YtnhfeakndofokaaY22
import Derived.Test.YtnhfeakndofokaaN34
import Derived.Test.YtnhfeakndofokaaY26
import Derived.Test.YtnhfeakndofokaaY35
import Derived.Test.YtnhfeakndofokaaY21
section
/- Package nfa. -/
namespace Go.Proofs.Ytnhfeakndofokaa
set_option linter.unusedSimpArgs false
set_option linter.unusedVariables false
set_option maxRecDepth 100000
open Go.RowKit
/- NfaMore: what is accepted, and lists as sources. -/
theorem acc_full {w : World} {ts : List RT} {q : Option Addr} {c : Nat} {s : ByteArray} (hE : refE ts = 0) (ho : ∀ t ∈ ts, okT t) (hSV : SV (fun b => b < w.heap.size) w (ssR ts) (.slice q (ssR ts).length c)) (hs : s.size ≤ 9223372036854775806) :
    Calls Try.prog 20 #[.agg #[.int .i64 (stR ts), .slice q (ssR ts).length c], .string s] w fun e w' => (∃ p c, e = .returned (.tuple #[.slice p (accT ts s.data.toList).length c, .int .i64 0]) ∧ IV (fun b => b < w'.heap.size) w' (accT ts s.data.toList) (.slice p (accT ts s.data.toList).length c)) ∧ Below w.heap.size w w' := by
  obtain ⟨h1, h2, h3, h4⟩ := refE_iff.1 hE
  unfold ssR at hSV ⊢
  unfold stR
  rw [if_pos hE] at hSV
  rw [if_pos hE, if_pos hE]
  obtain ⟨hc, hl⟩ := ofF_chk h1 h3
  have h := acc_ok (w := w) (st := (((ofF ts).length - 1 : Nat) : Int)) (s := s) (fun b h => h) hSV (ofF_fr h1 h3) (by omega) (ofF_okW ho) hs hc
  rw [ofF_acc h1 h3] at h
  unfold nV at h
  refine h.mono ?_
  rintro e w' ⟨⟨v, he, hv⟩, hb⟩
  obtain ⟨p, c', rfl, _⟩ := id hv
  exact ⟨⟨p, c', he, hv.mono (fun b h => h.2) (fun b _ _ => rfl)⟩, hb⟩
theorem iv_src {D : Nat → Prop} {w : World} {l : List Int} {p : Option Addr} {c : Nat} (h : IV D w l (.slice p l.length c)) : l.length = 0 ∨ ∃ ad, p = some ad ∧ ∀ j u, (l.map fun x => (Value.int .i64 x))[j]? = some u → w.cell? (ad.add j) = some u := by
  obtain ⟨p', c', he, hh⟩ := h
  cases he
  by_cases hn : l = []
  · exact .inl (by rw [hn]; rfl)
  obtain ⟨b, o, rfl, _, hc⟩ := hh hn
  refine .inr ⟨_, rfl, fun j u hu => ?_⟩
  obtain ⟨hj, rfl⟩ := List.getElem?_eq_some_iff.1 hu
  have hj' : j < l.length := by simpa using hj
  rw [Addr.add_mid, hc j hj']; simp
theorem ints_one (l : List Int) : ∀ u ∈ l.map (fun x => (Value.int .i64 x)), u.oneCell' = true := fun u hu => by
  obtain ⟨x, _, rfl⟩ := List.mem_map.1 hu; rfl
theorem NM.row {w y : World} {L : List (Nat × Obj)} {S : List (List Nst × Value)} {I : List (List Int × Value)} (h : NM w y L S I) {z : World} (hb : Below y.heap.size y z) : ∀ s ∈ I, IV (fun b => b < z.heap.size) z s.1 s.2 := (h.up hb).iv
end Go.Proofs.Ytnhfeakndofokaa
end
section
/- Package nfa. -/
namespace Go.Proofs.Ytnhfeakndofokaa
set_option linter.unusedSimpArgs false
set_option linter.unusedVariables false
set_option maxRecDepth 100000
open Go.RowKit
/- NfaMakes: the walk. -/
set_option maxHeartbeats 16000000 in
theorem makes_err {w : World} {ts : List RT} {q : Option Addr} {f : Nat} {s : ByteArray} (hA : RuV (fun x => x < w.heap.size) w ts (.slice q ts.length f)) (hla : ts.length ≤ 9223372036854775806) (hwa : ∀ t ∈ ts, wid t ≤ 9223372036854775806 ∧ okT t) (hE : refE ts ≠ 0) :
    Calls Try.prog 4 #[.slice q ts.length f, .string s] w fun e w' => e = .returned (.bool true) ∧ Below w.heap.size w w' := by
  have HRA := Lib.hid fun z (hb : Below w.heap.size w z) => hA.mono (E := fun x => x < z.heap.size) (fun b h => Nat.lt_of_lt_of_le h hb.size) (fun b h _ => hb.block b h)
  have HREF := Lib.hid (refuses_any (w := w) (fun b h => h) hA hla (fun t ht => (hwa t ht).1))
  have HOF := Lib.hid fun z (hb : Below w.heap.size w z) => of_full (w := z) (fun b h => h) (HRA.out z hb) hla (fun t ht => (hwa t ht).1)
  have hs0 : ssR ts = [] := by unfold ssR; rw [if_neg hE]
  have hs1 : stR ts = 0 := by unfold stR; rw [if_neg hE]
  rw [hs0, hs1] at HOF
  have hEI : (refE ts != 0) = true := by simpa using hE
  generalize refE ts = E at *
  have hz := zero24
  clear hA hwa hs0 hs1 HRA
  go_enter Try.func4, Try.ntmps4
  go_wp2_with fail
  refine HREF.out.mono ?_
  rintro _ y1 ⟨rfl, hb1⟩
  have S1 := Lib.hid hb1
  clear hb1 HREF
  go_wp2_with fail
  refine (HOF.out _ S1.out).mono ?_
  rintro _ y2 ⟨⟨sq, c, rfl, hsv⟩, hb2⟩
  rw [List.length_nil]
  have N1 := Lib.hid ((NM.start (S1.out.trans (hb2.mono S1.out.size))).box (.cells #[.int .i64 0, .slice sq 0 c] 24))
  clear hb2 hsv S1 HOF
  go_upto_region 4 with fail
  refine at_world (fun z => NM w z [(y2.heap.size, .cells #[.int .i64 0, .slice sq 0 c] 24)] [] []) N1.out fun z1 hz1 => ?_
  have N2 := Lib.hid hz1
  clear hz1 N1
  have d0 : z1.cell? ⟨y2.heap.size, 0, none⟩ = some (.int .i64 0) := N2.out.cell (b := y2.heap.size) (cs := #[.int .i64 0, .slice sq 0 c]) (t := 24) (by simp) 0
  have d1 : z1.cell? ⟨y2.heap.size, 1, none⟩ = some (.slice sq 0 c) := N2.out.cell (b := y2.heap.size) (cs := #[.int .i64 0, .slice sq 0 c]) (t := 24) (by simp) 1
  have HSN := Lib.hid (samenfa_true (w := z1) (D := fun _ => False) (E := fun _ => False) (st := 0) (ss := []) (qa := sq) (ca := c) (qb := none) (cb := 0) (fun b h => h.elim) (fun b h => h.elim) ⟨sq, c, rfl, fun h => absurd rfl h⟩ ⟨none, 0, rfl, fun h => absurd rfl h⟩ (by simp) (by simp))
  unfold nV at HSN
  rw [List.length_nil] at HSN
  go_wp2_with fail
  refine HSN.out.mono ?_
  rintro _ y3 ⟨rfl, hb3⟩
  have S3 := Lib.hid (N2.out.bel.trans (hb3.mono N2.out.bel.size))
  have HAL := Lib.hid (alive_any y3)
  clear hb3 HSN N2 d0 d1
  go_wp2_with fail
  refine HAL.out.mono ?_
  rintro _ y4 ⟨rfl, hb4⟩
  have S4 := Lib.hid (S3.out.trans (hb4.mono S3.out.size))
  clear hb4 HAL S3
  go_wp2_with fail
  go_ret
  exact ⟨rfl, S4.out⟩
end Go.Proofs.Ytnhfeakndofokaa
end
section
/- Package nfa. -/
namespace Go.Proofs.Ytnhfeakndofokaa
set_option linter.unusedSimpArgs false
set_option linter.unusedVariables false
set_option maxRecDepth 100000
open Go.RowKit
/- MarkInts of a list that may be written. -/
set_option maxHeartbeats 8000000 in
theorem mark_0 {w : World} (q : Option Addr) (c : Nat) : Calls Try.prog 23 #[.slice q 0 c, .int .i64 0] w fun e w' => (∃ i, e = .returned (.int .i64 i)) ∧ w' = w := by
  go_enter Try.func23, Try.ntmps23
  go_wp2_with fail
  go_loopw [5] (fun i wr => i = .int .i64 0 ∧ wr = w) (fun _ _ => 0)
  case atStart => exact ⟨rfl, rfl⟩
  case round =>
  obtain ⟨rfl, rfl⟩ := hrel
  go_wp2_with fail
  go_ret
  exact ⟨⟨_, rfl⟩, rfl⟩
set_option maxHeartbeats 8000000 in
theorem mark_w {w : World} {g o m c : Nat} {cs : Array Value} {t : TypeId} (hl : m ≤ 1000000) (h : w.heap[g]? = some (.cells cs t (0, 0))) (hs : o + m ≤ cs.size) :
    Calls Try.prog 23 #[.slice (some ⟨g, o, none⟩) m c, .int .i64 0] w fun e w' => (∃ i, e = .returned (.int .i64 i)) ∧ Only (some g) w w' ∧ ∃ cs' : Array Value, w'.heap[g]? = some (.cells cs' t (0, 0)) ∧ cs'.size = cs.size := by
  have H0 : Hid (∃ cs' : Array Value, w.heap[g]? = some (.cells cs' t (0, 0)) ∧ cs'.size = cs.size) := Lib.hid ⟨cs, h, rfl⟩
  have HO := Lib.hid (Only.refl (some g) w)
  generalize cs.size = S at *
  clear h
  go_enter Try.func23, Try.ntmps23
  go_wp2_with fail
  go_loopw [5] (fun i wr => ∃ j : Nat, i = .int .i64 (j : Nat) ∧ j ≤ m ∧ Hid (∃ cs' : Array Value, wr.heap[g]? = some (.cells cs' t (0, 0)) ∧ cs'.size = S) ∧ Hid (Only (some g) w wr)) (fun i _ => m - (intOf i).toNat)
  case atStart => exact ⟨0, rfl, by omega, H0, HO⟩
  case round =>
    clear H0 HO
    obtain ⟨j, rfl, hj, HC, HO⟩ := hrel
    obtain ⟨wo, rfl⟩ : ∃ wo : World, wo = wr := ⟨_, rfl⟩
    by_cases hlt : j < m
    · have hltI : (j : Int) < (m : Int) := by omega
      have hjI : ¬ (j : Int) < 0 := by omega
      obtain ⟨cs2, k1, k2⟩ := HC.out
      obtain ⟨old, hold⟩ : ∃ old, cs2[o + j]? = some old := ⟨cs2[o + j]'(by omega), Array.getElem?_eq_getElem (by omega)⟩
      have cj : wo.cell? ⟨g, o + j, none⟩ = some old := by rw [cell_of_row wo g (o + j) _ t (0, 0) k1]; exact hold
      have cf : wo.frozen? ⟨g, o + j, none⟩ = false := frozen_of_row wo g (o + j) _ t k1
      have HC2 : Hid (∀ v, ∃ cs' : Array Value, (wo.setCell ⟨g, o + j, none⟩ v).heap[g]? = some (.cells cs' t (0, 0)) ∧ cs'.size = S) := Lib.hid fun v => ⟨cs2.setIfInBounds (o + j) v, heap_setCell_same wo g (o + j) cs2 t _ k1, by simpa using k2⟩
      have HO2 := Lib.hid fun v => HO.out.set (o + j) v
      clear HC HO k1 k2 hold
      go_wp2_with fail
      go_roundw
      case rel => exact ⟨j + 1, by go_num, by omega, Lib.hid (HC2.out _), Lib.hid (HO2.out _)⟩
      case measure => simp [intOf]; omega
    · obtain rfl : j = m := by omega
      have hltI : ¬ (j : Int) < (j : Int) := by omega
      go_wp2_with fail
      go_ret
      exact ⟨⟨_, rfl⟩, HO.out, HC.out⟩
end Go.Proofs.Ytnhfeakndofokaa
end
section
/- Package nfa. -/
namespace Go.Proofs.Ytnhfeakndofokaa
set_option linter.unusedSimpArgs false
set_option linter.unusedVariables false
set_option maxRecDepth 100000
open Go.RowKit
/- Writing over states, one by one. -/
structure Chg (B0 B1 : Nat) (y z : World) : Prop where
  bel : Below B0 y z
  sz : z.heap.size = y.heap.size
  hi : ∀ b, B1 ≤ b → z.heap[b]? = y.heap[b]?
theorem Chg.refl (B0 B1 : Nat) (y : World) : Chg B0 B1 y y := ⟨Below.refl _ _, rfl, fun _ _ => rfl⟩
theorem Chg.only {B0 B1 b : Nat} {y z z' : World} (h : Chg B0 B1 y z) (ho : Only (some b) z z') (h0 : B0 ≤ b) (h1 : b < B1) : Chg B0 B1 y z' :=
  ⟨ho.below h.bel (fun k e => by cases e; exact h0), ho.size.trans h.sz, fun k hk => (ho.block k (fun e => by cases e; omega)).trans (h.hi k hk)⟩
theorem Chg.cells {B0 B1 g o : Nat} {y z : World} {vs : List Value} (h : Chg B0 B1 y z) (h0 : B0 ≤ g) (h1 : g < B1) : Chg B0 B1 y (z.setCells g o vs) :=
  ⟨setCells_below h0 vs o z h.bel, (setCells_size vs o z).trans h.sz, fun k hk => (setCells_other (by omega) vs o z).trans (h.hi k hk)⟩
theorem Chg.block {B0 B1 b : Nat} {y z : World} (h : Chg B0 B1 y z) (hb : b < B0 ∨ B1 ≤ b) : z.heap[b]? = y.heap[b]? := hb.elim (h.bel.block b) (h.hi b)
theorem Wipe.mark {D : Nat → Prop} {w w' : World} {ss : List Nst} {g c j b : Nat} {cs cs' : Array Value} {t : TypeId} (h : Wipe D w ss (.slice (some ⟨g, 0, none⟩) ss.length c) j) (hne : b ≠ g) (ho : Only (some b) w w') (h1 : w.heap[b]? = some (.cells cs t (0, 0))) (h2 : w'.heap[b]? = some (.cells cs' t (0, 0))) (hs : cs'.size = cs.size) : Wipe D w' ss (.slice (some ⟨g, 0, none⟩) ss.length c) j := by
  obtain ⟨g', c', csg, tg, e, hD, hh, hsz, hx⟩ := h
  cases e
  have hk : ∀ k, k ≠ b → w'.heap[k]? = w.heap[k]? := fun k hk => ho.block k (fun e => hk (by cases e; rfl))
  have hg := hk g (fun e => hne e.symm)
  refine ⟨g, c, csg, tg, rfl, hD, hg.trans hh, hsz, fun i hi hj => ?_⟩
  obtain ⟨q, f, k1, k2⟩ := hx i hi hj
  refine ⟨q, f, (cell_same hg _).trans k1, fun hn => ?_⟩
  obtain ⟨b', o, cs2, t2, e2, hDb, hne2, hb2, ho2⟩ := k2 hn
  by_cases hbb : b' = b
  · subst hbb
    rw [h1] at hb2
    cases hb2
    exact ⟨b', o, cs', t, e2, hDb, hne2, h2, by omega⟩
  · exact ⟨b', o, cs2, t2, e2, hDb, hne2, (hk b' hbb).trans hb2, ho2⟩
theorem Wipe.store {D : Nat → Prop} {w : World} {ss : List Nst} {g c j : Nat} {vs : List Value} (h : Wipe D w ss (.slice (some ⟨g, 0, none⟩) ss.length c) j) (hl : vs.length = 7) : Wipe D (w.setCells g (j * 7) vs) ss (.slice (some ⟨g, 0, none⟩) ss.length c) (j + 1) := by
  obtain ⟨g', c', csg, tg, e, hD, hh, hsz, hx⟩ := h
  cases e
  have hg := setCells_heap vs (j * 7) w csg hh
  refine ⟨g, c, _, tg, rfl, hD, hg, by rw [putA_size]; exact hsz, fun i hi hj => ?_⟩
  obtain ⟨q, f, k1, k2⟩ := hx i hi (by omega)
  refine ⟨q, f, (World.cell?_setCells_out g vs (j * 7) w ⟨g, i * 7 + 5, none⟩ (fun _ _ => .inr (by rw [hl]; show j * 7 + 7 ≤ i * 7 + 5; omega))).trans k1, fun hn => ?_⟩
  obtain ⟨b', o, cs2, t2, e2, hDb, hne2, hb2, ho2⟩ := k2 hn
  exact ⟨b', o, cs2, t2, e2, hDb, hne2, (setCells_other hne2 vs _ w).trans hb2, ho2⟩
theorem Wipe.there {D : Nat → Prop} {w : World} {ss : List Nst} {g c j : Nat} (h : Wipe D w ss (.slice (some ⟨g, 0, none⟩) ss.length c) j) {i : Nat} (hi : i < ss.length) : w.there g (i * 7) 7 := by
  obtain ⟨g', c', csg, tg, e, hD, hh, hsz, hx⟩ := h
  cases e
  intro k hk
  exact ⟨by rw [cell_of_row w g _ _ tg (0, 0) hh, Array.getElem?_eq_getElem (by omega)]; rfl, frozen_of_row w g _ _ tg hh⟩
theorem info49z : (Try.prog.info? 49).map (fun i => (i.zero, i.size)) = some (some (.agg #[.int .u64 0, .int .u64 0, .int .u64 0, .int .u64 0, .int .i64 0, .slice none 0 0, .int .i64 0]), 7) := by kernel_rfl
theorem size49z : (Try.prog.info? 49).map (·.size) = some 7 := (zero_of_info info49z).2
end Go.Proofs.Ytnhfeakndofokaa
end
section
/- Package nfa. -/
namespace Go.Proofs.Ytnhfeakndofokaa
set_option linter.unusedSimpArgs false
set_option linter.unusedVariables false
set_option maxRecDepth 100000
open Go.RowKit
/- NfaMakes: Of with what may be written over. -/
theorem of_wipe {D : Nat → Prop} {w : World} {ts : List RT} {q : Option Addr} {f : Nat} (hD : ∀ b, D b → b < w.heap.size) (hR : RuV D w ts (.slice q ts.length f)) (hln : ts.length ≤ 9223372036854775806) (hwid : ∀ t ∈ ts, wid t ≤ 9223372036854775806) (hE : refE ts = 0) :
    Calls Try.prog 15 #[.slice q ts.length f] w fun e w' => (∃ g c, e = .returned (.tuple #[.agg #[.int .i64 (stR ts), .slice (some ⟨g, 0, none⟩) (ssR ts).length c], .int .i64 0]) ∧ SV (fun b => w.heap.size ≤ b ∧ b < w'.heap.size) w' (ssR ts) (.slice (some ⟨g, 0, none⟩) (ssR ts).length c) ∧ Wipe (fun b => w.heap.size ≤ b ∧ b < w'.heap.size) w' (ssR ts) (.slice (some ⟨g, 0, none⟩) (ssR ts).length c) 0) ∧ Below w.heap.size w w' := by
  have HREF : Hid (∀ z, Below w.heap.size w z → Calls Try.prog 33 #[.slice q ts.length f] z fun e z' => e = .returned (.int .i64 (refE ts)) ∧ Below z.heap.size z z') := Lib.hid fun z hb => refused_any (fun b h => Nat.lt_of_lt_of_le (hD b h) hb.size) (hR.mono (fun b h => h) (fun b h _ => hb.block b (hD b h))) hln hwid
  unfold stR ssR
  rw [if_pos hE, if_pos hE]
  obtain ⟨h1, h2, h3, h4⟩ := refE_iff.1 hE
  rw [hE] at HREF
  refine (of_any hD hR h2 h1 h3 HREF).mono ?_
  rintro e w' ⟨⟨sq, c, he, hsv, hwp⟩, hb⟩
  obtain ⟨g, c', cs, t, e2, _⟩ := id hwp
  cases e2
  exact ⟨⟨g, c, he, hsv, hwp⟩, hb⟩
theorem ssR_facts {ts : List RT} (hE : refE ts = 0) : (ssR ts).length ≤ 4095 ∧ (∀ s ∈ ssR ts, s.fr.length ≤ 1000000) ∧ chkN (stR ts) (ssR ts) = 0 := by
  obtain ⟨h1, h2, h3, h4⟩ := refE_iff.1 hE
  unfold stR ssR
  rw [if_pos hE, if_pos hE]
  obtain ⟨hc, hl⟩ := ofF_chk h1 h3
  refine ⟨hl, fun s h => ?_, hc⟩
  have k1 := foldL_len ts 0 0
  have k2 : frees (ofF ts) ≤ 16384 := by rw [ofF_L, frees_app]; simp [frees]; omega
  have := frees_mem h
  omega
theorem acc_full2 {w : World} {ts : List RT} {q : Option Addr} {c : Nat} {s : ByteArray} (hE : refE ts = 0) (ho : ∀ t ∈ ts, okT t) (hSV : SV (fun b => b < w.heap.size) w (ssR ts) (.slice q (ssR ts).length c)) (hs : s.size ≤ 9223372036854775806) :
    Calls Try.prog 20 #[.agg #[.int .i64 (stR ts), .slice q (ssR ts).length c], .string s] w fun e w' => (∃ p c, e = .returned (.tuple #[.slice p (accT ts s.data.toList).length c, .int .i64 0]) ∧ IV (fun b => w.heap.size ≤ b ∧ b < w'.heap.size) w' (accT ts s.data.toList) (.slice p (accT ts s.data.toList).length c)) ∧ Below w.heap.size w w' := by
  obtain ⟨h1, h2, h3, h4⟩ := refE_iff.1 hE
  unfold ssR at hSV ⊢
  unfold stR
  rw [if_pos hE] at hSV
  rw [if_pos hE, if_pos hE]
  obtain ⟨hc, hl⟩ := ofF_chk h1 h3
  have h := acc_ok (w := w) (st := (((ofF ts).length - 1 : Nat) : Int)) (s := s) (fun b h => h) hSV (ofF_fr h1 h3) (by omega) (ofF_okW ho) hs hc
  rw [ofF_acc h1 h3] at h
  unfold nV at h
  refine h.mono ?_
  rintro e w' ⟨⟨v, he, hv⟩, hb⟩
  obtain ⟨p, c', rfl, _⟩ := id hv
  exact ⟨⟨p, c', he, hv⟩, hb⟩
theorem bs_eq (s : ByteArray) : bs s.data.toList = s := by cases s; rfl
/-- What lies: the twin of the rules, the automaton, its box. -/
structure KM (w : World) (A0 A1 A2 : Nat) (ts : List RT) (kds : Nat → Int) (gt ct : Nat) (st : Int) (ss : List Nst) (g c : Nat) (z : World) : Prop where
  bel : Below w.heap.size w z
  o0 : w.heap.size ≤ A0
  o1 : A0 ≤ A1
  o2 : A1 ≤ A2
  lt : A2 < z.heap.size
  tr : TRul (fun b => A0 ≤ b ∧ b < A1) z ts kds gt ct
  sv : SV (fun b => A1 ≤ b ∧ b < A2) z ss (.slice (some ⟨g, 0, none⟩) ss.length c)
  wp : Wipe (fun b => A1 ≤ b ∧ b < A2) z ss (.slice (some ⟨g, 0, none⟩) ss.length c) 0
  bx : z.heap[A2]? = some (.cells #[.int .i64 st, .slice (some ⟨g, 0, none⟩) ss.length c] 24)
section
variable {w : World} {A0 A1 A2 : Nat} {ts : List RT} {kds : Nat → Int} {gt ct : Nat} {st : Int} {ss : List Nst} {g c : Nat} {z z' : World}
theorem KM.up (h : KM w A0 A1 A2 ts kds gt ct st ss g c z) (hb : Below z.heap.size z z') : KM w A0 A1 A2 ts kds gt ct st ss g c z' :=
  ⟨h.bel.trans (hb.mono h.bel.size), h.o0, h.o1, h.o2, Nat.lt_of_lt_of_le h.lt hb.size, h.tr.mono (fun b h => h) (fun b k _ => hb.block b (by have := h.o2; have := h.lt; omega)), h.sv.mono (fun b h => h) (fun b k _ => hb.block b (by have := h.lt; omega)), h.wp.mono (fun b h => h) (fun b k _ => hb.block b (by have := h.lt; omega)), (hb.block A2 h.lt).trans h.bx⟩
theorem KM.c0 (h : KM w A0 A1 A2 ts kds gt ct st ss g c z) : z.cell? ⟨A2, 0, none⟩ = some (.int .i64 st) := cell_of_row z A2 0 _ 24 (0, 0) h.bx
theorem KM.c1 (h : KM w A0 A1 A2 ts kds gt ct st ss g c z) : z.cell? ⟨A2, 1, none⟩ = some (.slice (some ⟨g, 0, none⟩) ss.length c) := cell_of_row z A2 1 _ 24 (0, 0) h.bx
theorem KM.svl (h : KM w A0 A1 A2 ts kds gt ct st ss g c z) : SV (fun b => b < z.heap.size) z ss (.slice (some ⟨g, 0, none⟩) ss.length c) := h.sv.mono (fun b k => by have := h.lt; omega) (fun b _ _ => rfl)
theorem KM.trl (h : KM w A0 A1 A2 ts kds gt ct st ss g c z) : TRul (fun b => b < z.heap.size) z ts kds gt ct := h.tr.mono (fun b k => by have := h.lt; have := h.o2; omega) (fun b _ _ => rfl)
theorem KM.cb (h : KM w A0 A1 A2 ts kds gt ct st ss g c z) (hc : Chg A1 A2 z z') : z'.cell? ⟨A2, 1, none⟩ = some (.slice (some ⟨g, 0, none⟩) ss.length c) := (cell_same (hc.hi A2 (Nat.le_refl _)) 1).trans h.c1
end
end Go.Proofs.Ytnhfeakndofokaa
end
section
/- Package nfa. -/
namespace Go.Proofs.Ytnhfeakndofokaa
set_option linter.unusedSimpArgs false
set_option linter.unusedVariables false
set_option maxRecDepth 100000
open Go.RowKit
/- A state of its own kind, made and stored. -/
def m5 : Array Value := #[.int .u64 0, .int .u64 0, .int .u64 0, .int .u64 0, .int .i64 (-5), .slice none 0 0, .int .i64 0]
theorem b49 : Try.prog.built 49 [(1, .int .i64 (-5))] = some m5 := by kernel_rfl
theorem wpList_b49 {ops : Array Oper} {rest : List Oper} {o : Oper} {a : Act} {w : World} {Q : Exit → Act → World → Prop} (hg : o.guard = none) (ho : o.op = .build 49 #[(1, .const (.int .i64 (-5)))])
    (h : wpList Try.prog ops Q rest (a.put o.dst (.agg m5)) w) : wpList Try.prog ops Q (o :: rest) a w := by
  refine wpList_build hg 49 _ ho ?_ ?_
  · simp [Act.eval, b49]
  · simp [Act.eval, b49]; exact h
theorem m5_one : m5.all (·.oneCell') = true := by simp [m5, Value.oneCell']
theorem wpList_st49 {ops : Array Oper} {rest : List Oper} {o : Oper} {a : Act} {w : World} {Q : Exit → Act → World → Prop} (g k : Nat) (hg : o.guard = none) (ho : o.op = .store 49 (.tmp 106) (.tmp 105)) (hx : a.eval (.tmp 106) = .pointer (some ⟨g, k, none⟩)) (hy : a.eval (.tmp 105) = .agg m5) (ht : w.there g k 7)
    (h : wpList Try.prog ops Q rest (a.put o.dst undef) (w.setCells g k m5.toList)) : wpList Try.prog ops Q (o :: rest) a w := by
  refine wpList_plain hg fun K hK => wp_store_mid 49 (.tmp 106) (.tmp 105) ho g k m5 hx hy ht size49z m5_one ?_
  exact hK _ _ h
end Go.Proofs.Ytnhfeakndofokaa
end
