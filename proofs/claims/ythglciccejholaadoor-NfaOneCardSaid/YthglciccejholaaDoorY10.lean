/- Texts of package regs, one behind the other. -/
import Derived.Test.YthglciccejholaaDoorProg
import Derived.Test.YthglciccejholaaDoorN14
import Derived.WalkKit
import Derived.WalkLawsBesides
import Derived.WalkSpells
import Derived.Outline
import Derived.Lib.Walk
import Derived.Lib.Hide
import Derived.Lib.Slices
import Derived.Lib.Strings
import Derived.RegionTactic
import Derived.LoopTactic
import Derived.Below
import Derived.IntWalk
import Derived.Deep.QuietTactic
import Derived.BigQuiet
import Derived.Deep.MidRow
import Derived.Maps.AppendAt
import Derived.Laws.Rows
import Derived.Laws.Tables
import Derived.Deep.WholeRow
import Derived.Deep.Cut
import Derived.Deep.CutRange
import Derived.Lib.SliceRun
import Derived.Laws.MakeOwn
import Derived.Deep.RegionLaw
import Derived.Deep.RegionLawGrows
section
/- Package nfa. -/
namespace Go.Proofs.YthglciccejholaaDoor
set_option linter.unusedSimpArgs false
set_option linter.unusedVariables false
set_option maxRecDepth 100000
open Go.RowKit
/- NfaBig; SameInts. -/
set_option maxHeartbeats 8000000 in
theorem same_any {D E : Nat → Prop} {w : World} {a b : List Int} {pa pb : Option Addr} {ca cb : Nat} (hla : a.length ≤ 9223372036854775806) (hD : ∀ b, D b → b < w.heap.size) (hE : ∀ b, E b → b < w.heap.size) (ha : IV D w a (.slice pa a.length ca)) (hb : IV E w b (.slice pb b.length cb)) :
    Calls Tryd.prog 43 #[.slice pa a.length ca, .slice pb b.length cb] w fun e w' => e = .returned (.bool (decide (a = b))) ∧ Below w.heap.size w w' := by
  have HA := Lib.hid ha
  have HB := Lib.hid hb
  have HD := Lib.hid hD
  have HE := Lib.hid hE
  have S0 := Lib.hid (Below.refl w.heap.size w)
  clear ha hb hD hE
  by_cases hl : a.length = b.length
  · have HLN := Lib.hid hl
    rw [← hl]
    have hne : (((a.length : Nat) : Int) != ((a.length : Nat) : Int)) = false := by simp
    clear hl
    go_enter Tryd.func43, Tryd.ntmps43
    go_wp2_with fail
    go_loopw [5] (fun i wr => ∃ j : Nat, i = .int .i64 (j : Nat) ∧ j ≤ a.length ∧ Hid (a.take j = b.take j) ∧ Hid (Below w.heap.size w wr)) (fun i _ => a.length - (intOf i).toNat)
    case atStart => exact ⟨0, rfl, by omega, Lib.hid (by simp), S0⟩
    case round =>
      clear S0
      obtain ⟨j, rfl, hj, HT, HS⟩ := hrel
      obtain ⟨wo, rfl⟩ : ∃ wo : World, wo = wr := ⟨_, rfl⟩
      by_cases hlt : j < a.length
      · have hltb : j < b.length := by have := HLN.out; omega
        obtain ⟨p', c', he, hh⟩ := HA.out
        injection he with e1 e2 e3
        subst e1 e3
        clear e2
        obtain ⟨ba, oa, rfl, hba, hca⟩ := hh (by intro e; rw [e] at hlt; simp at hlt)
        obtain ⟨p'', c'', he, hh2⟩ := HB.out
        injection he with e4 e5 e6
        subst e4 e6
        obtain ⟨bb, ob, rfl, hbb, hcb⟩ := hh2 (by intro e; rw [e] at hltb; simp at hltb)
        have ca1 : wo.cell? ⟨ba, oa + j, none⟩ = some (.int .i64 a[j]) := (cell_same (HS.out.block ba (HD.out ba hba)) _).trans (hca j hlt)
        have cb1 : wo.cell? ⟨bb, ob + j, none⟩ = some (.int .i64 b[j]) := (cell_same (HS.out.block bb (HE.out bb hbb)) _).trans (hcb j hltb)
        have ht1 : a.take (j + 1) = a.take j ++ [a[j]] := by rw [List.take_add_one, List.getElem?_eq_getElem hlt]; rfl
        have ht2 : b.take (j + 1) = b.take j ++ [b[j]] := by rw [List.take_add_one, List.getElem?_eq_getElem hltb]; rfl
        have hneq : a[j] ≠ b[j] → a ≠ b := fun h e => h (by subst e; rfl)
        generalize a[j] = x at *
        generalize b[j] = y at *
        have HT1 := Lib.hid ht1
        have HT2 := Lib.hid ht2
        have HNE := Lib.hid hneq
        have hltI : (j : Int) < (a.length : Int) := by omega
        have hjI : ¬ (j : Int) < 0 := by omega
        clear hh hh2 hca hcb ht1 ht2 hneq e5 hltb
        by_cases hxy : x = y
        · have hxI : (x != y) = false := by rw [hxy]; simp
          have HT3 : Hid (a.take (j + 1) = b.take (j + 1)) := Lib.hid (by rw [HT1.out, HT2.out, HT.out, hxy])
          clear HT HNE hxy
          go_wp2_with fail
          go_quiet (fail)
          refine at_worldQ (fun z => Below w.heap.size w z) (below_drewN HS.out _) fun z hz => ?_
          have HS2 := Lib.hid hz
          clear hz HS ca1 cb1
          go_wp2_with fail
          go_roundw
          case rel => exact ⟨j + 1, by go_num, by omega, HT3, HS2⟩
          case measure => simp [intOf]; omega
        · have hxI : (x != y) = true := by simpa using hxy
          have HRES : Hid (decide (a = b) = false) := Lib.hid (by simpa using HNE.out hxy)
          clear HT HNE hxy
          go_wp2_with fail
          go_quiet (fail)
          refine at_worldQ (fun z => Below w.heap.size w z) (below_drewN HS.out _) fun z hz => ?_
          have HS2 := Lib.hid hz
          clear hz HS ca1 cb1
          go_wp2_with fail
          go_ret
          exact ⟨vbool6 HRES.out.symm, HS2.out⟩
      · obtain rfl : j = a.length := by omega
        have hab : a = b := by
          have := HT.out
          rwa [List.take_length, HLN.out, List.take_length] at this
        have HRES : Hid (decide (a = b) = true) := Lib.hid (by simpa using hab)
        have hltI : ¬ (a.length : Int) < (a.length : Int) := by omega
        clear hab
        go_wp2_with fail
        go_ret
        exact ⟨vbool6 HRES.out.symm, HS.out⟩
  · have hne : (((a.length : Nat) : Int) != ((b.length : Nat) : Int)) = true := by simp; omega
    have hr : decide (a = b) = false := by simp; intro e; exact hl (by rw [e])
    rw [hr]
    go_enter Tryd.func43, Tryd.ntmps43
    go_wp2_with fail
    go_ret
    exact ⟨rfl, S0.out⟩
end Go.Proofs.YthglciccejholaaDoor
end
section
/- Package nfa. -/
namespace Go.Proofs.YthglciccejholaaDoor
set_option linter.unusedSimpArgs false
set_option linter.unusedVariables false
set_option maxRecDepth 100000
open Go.RowKit
/- append to a row of one's own, as one step of a region that draws. -/
theorem step_append_own {P : Program} {ops : Array Oper} {o : Oper} {a : Act} {w : World} {K : Act → World → Prop} {Q : Exit → Act → World → Prop} {E : Prop}
    (hg : o.guard = none) (s x : Operand) (t : TypeId) (hop : o.op = Op.call { callee := Callee.builtin Builtin.append, args := #[s, x], argTypes := #[t, t] })
    (base : Nat) (e : TypeId) (i : TypeInfo) (z : Value) (size bytes : Nat) (ht : P.underlying t = some (.slice e)) (hi : P.info? e = some i) (hz : i.zero = some z)
    (hsize : i.size = size) (hby : i.bytes = bytes) (hzs : z.cells.size = size) (hsz : 0 < size)
    (v : Value) (n : Nat) (xs : List Value) (hs : a.eval s = v) (hown : w.ownsRow base e size v n xs)
    (ad : Addr) (m c : Nat) (news : List Value) (hx : a.eval x = .slice (some ad) m c) (hl : news.length = m * size) (hnews : ∀ j u, news[j]? = some u → w.cell? (ad.add j) = some u) (h1 : ∀ u ∈ news, u.oneCell' = true)
    (h63 : n + m ≤ maxLen) (hbytes : (n + m) * bytes ≤ 140737488355328) (hbase : base ≤ w.heap.size)
    (h : ∀ v' w', w'.ownsRow base e size v' (n + m) (xs ++ news) → w.grownBy w' v.ownBlock → (v' = .slice none 0 0 ↔ v = .slice none 0 0 ∧ m = 0) → (v'.ownBlock = v.ownBlock ∨ v'.ownBlock = some w.heap.size) → K (a.put o.dst v') w') :
    if Region.wanted o (yielded ops a.tmps) = true then Oper.wp P o a w K Q else E := by
  have hw : Region.wanted o (yielded ops a.tmps) = true := by simp [Region.wanted, hg]
  rw [if_pos hw]
  obtain ⟨v', w', hr, h2, h3, h4, h5⟩ := run_append_own_at (P := P) w base t o.type e i z size bytes ht hi hz hsize hby hzs hsz v n xs hown ad m c news hl hnews h1 h63 hbytes hbase
  unfold Oper.wp execOp
  simp only [hop, resolve, invoke, builtin, Sem.run_bind, Sem.run_pure, Result.andThen_ok, List.map_toArray, List.map_cons, List.map_nil, hs, hx, hr]
  exact h v' w' h2 h3 h4 h5
/- The builder's states. -/
theorem info49b : (Tryd.prog.info? 73).map (fun i => (i.zero, i.size, i.bytes)) = some (some (.agg #[.int .u64 0, .int .u64 0, .int .u64 0, .int .u64 0, .int .i64 0, .slice none 0 0, .int .i64 0]), 7, 72) := by kernel_rfl
def flat : List (Array Value) → List Value
  | [] => []
  | x :: r => x.toList ++ flat r
theorem flat_app : ∀ a b : List (Array Value), flat (a ++ b) = flat a ++ flat b
  | [], b => rfl
  | x :: a, b => by simp only [List.cons_append, flat, flat_app a b, List.append_assoc]
theorem flat_get : ∀ (xs : List (Array Value)), (∀ x ∈ xs, x.size = 7) → ∀ i (h : i < xs.length) j, j < 7 → (flat xs)[i * 7 + j]? = (xs[i])[j]?
  | x :: r, h, 0, _, j, hj => by
    have hx : x.size = 7 := h x (List.mem_cons_self ..)
    rw [flat, Nat.zero_mul, Nat.zero_add, List.getElem?_append_left (by simp [hx]; exact hj)]
    simp
  | x :: r, h, i + 1, hi, j, hj => by
    have hx : x.size = 7 := h x (List.mem_cons_self ..)
    rw [flat, List.getElem?_append_right (by simp [hx]; omega)]
    have := flat_get r (fun y hy => h y (List.mem_cons_of_mem _ hy)) i (by simpa using hi) j hj
    rw [show (i + 1) * 7 + j - x.toList.length = i * 7 + j by simp [hx]; omega, this]
    rfl
/-- A state and its list's slice. -/
abbrev Nq := Nst × Option Addr × Nat
def zC (z : Nq) : Array Value := stC z.1.u z.1.to (.slice z.2.1 z.1.fr.length z.2.2) z.1.rl
theorem zC_size (z : Nq) : (zC z).size = 7 := rfl
theorem flatz_get (zs : List Nq) (i : Nat) (h : i < zs.length) (j : Nat) (hj : j < 7) : (flat (zs.map zC))[i * 7 + j]? = (zC zs[i])[j]? := by
  have h2 := flat_get (zs.map zC) (fun x hx => by obtain ⟨z, _, rfl⟩ := List.mem_map.1 hx; exact zC_size z) i (by simpa using h) j hj
  rw [h2, List.getElem_map]
/-- A list of numbers whose block may be written. -/
def IVf (D : Nat → Prop) (w : World) (l : List Int) (sl : Value) : Prop := ∃ p c, sl = .slice p l.length c ∧ (l ≠ [] → ∃ b o, p = some ⟨b, o, none⟩ ∧ D b ∧ (∀ i (h : i < l.length), w.cell? ⟨b, o + i, none⟩ = some (.int .i64 l[i])) ∧ ∃ cs t, w.heap[b]? = some (.cells cs t (0, 0)))
theorem IVf.mono {D E : Nat → Prop} {w w' : World} (hE : ∀ b, D b → E b) (hw : ∀ b, D b → b < w.heap.size → w'.heap[b]? = w.heap[b]?) {l : List Int} {sl : Value} (h : IVf D w l sl) : IVf E w' l sl := by
  obtain ⟨p, c, rfl, h⟩ := h
  refine ⟨p, c, rfl, fun hn => ?_⟩
  obtain ⟨b, o, hp, hD, hc, cs, t, hf⟩ := h hn
  have hb := hw b hD (Array.getElem?_eq_some_iff.1 hf).1
  exact ⟨b, o, hp, hE b hD, fun i hi => by rw [← hc i hi]; exact cell_same hb _, cs, t, hb.trans hf⟩
theorem IVf.nil (D : Nat → Prop) (w : World) (p : Option Addr) (c : Nat) : IVf D w [] (.slice p 0 c) := ⟨p, c, rfl, fun h => absurd rfl h⟩
theorem IVf.iv {D : Nat → Prop} {w : World} {l : List Int} {sl : Value} (h : IVf D w l sl) : IV D w l sl := by
  obtain ⟨p, c, rfl, h⟩ := h
  refine ⟨p, c, rfl, fun hn => ?_⟩
  obtain ⟨b, o, hp, hD, hc, _⟩ := h hn
  exact ⟨b, o, hp, hD, hc⟩
theorem own_fz {w : World} {B : Nat} {e : TypeId} {size : Nat} {g n c m : Nat} {xs : List Value} (h : w.ownsRow B e size (.slice (some ⟨g, 0, none⟩) n c) m xs) : ∃ cs t, w.heap[g]? = some (.cells cs t (0, 0)) := by
  rcases h.2 with ⟨hv, _⟩ | ⟨g', cap, cur, hv, _, hg, _⟩
  · cases hv
  · cases hv; exact ⟨_, _, hg⟩
/-- States in a row of one's own; their lists lie elsewhere, and not in block bb. -/
def Ts (B bb : Nat) (P : Nat → Prop) (zs : List Nq) (sl : Value) (w : World) : Prop := (∀ i (h : i < zs.length), IVf (fun b => B ≤ b ∧ b < w.heap.size ∧ some b ≠ sl.ownBlock ∧ b ≠ bb ∧ ¬ P b) w zs[i].1.fr (.slice zs[i].2.1 zs[i].1.fr.length zs[i].2.2)) ∧ w.ownsRow B 73 7 sl zs.length (flat (zs.map zC))
/-- A builder in block bb; the blocks of P are others' and stay. -/
structure BB (B : Nat) (P : Nat → Prop) (w0 y : World) (bb : Nat) (zs : List Nq) (sl : Value) : Prop where
  bel : Below B w0 y
  f : y.heap[bb]? = some (.cells #[sl] 77)
  ts : Ts B bb P zs sl y
  hb : B ≤ bb
  sb : sl.ownBlock ≠ some bb
  sz : B ≤ y.heap.size
  pr : ∀ b, P b → b < y.heap.size ∧ b ≠ bb ∧ some b ≠ sl.ownBlock
theorem Ts.up {B bb : Nat} {P : Nat → Prop} {zs : List Nq} {sl : Value} {y z : World} (h : Ts B bb P zs sl y) (hb : Below y.heap.size y z) : Ts B bb P zs sl z := by
  obtain ⟨h3, h4⟩ := h
  refine ⟨fun i hi => (h3 i hi).mono (fun b h => ⟨h.1, Nat.lt_of_lt_of_le h.2.1 hb.size, h.2.2⟩) (fun b h _ => hb.block b h.2.1), ?_⟩
  refine World.ownsRow.kept h4 (row := none) ⟨hb.os, hb.tape, hb.output, hb.size, fun k hk _ => hb.block k hk⟩ ?_
  by_cases hp : sl.ownBlock = none
  · exact .inl hp
  · exact .inr hp
theorem BB.up {B : Nat} {P : Nat → Prop} {w0 y z : World} {bb : Nat} {zs : List Nq} {sl : Value} (h : BB B P w0 y bb zs sl) (hb : Below y.heap.size y z) : BB B P w0 z bb zs sl :=
  ⟨h.bel.trans (hb.mono h.sz), (hb.block bb (Array.getElem?_eq_some_iff.1 h.f).1).trans h.f, h.ts.up hb, h.hb, h.sb, Nat.le_trans h.sz hb.size, fun b hp => ⟨Nat.lt_of_lt_of_le (h.pr b hp).1 hb.size, (h.pr b hp).2⟩⟩
theorem Ts.sub {B bb : Nat} {P Q : Nat → Prop} {zs : List Nq} {sl : Value} {w : World} (h : Ts B bb P zs sl w) (hq : ∀ b, Q b → P b ∨ w.heap.size ≤ b) : Ts B bb Q zs sl w :=
  ⟨fun i hi => (h.1 i hi).mono (fun b hb => ⟨hb.1, hb.2.1, hb.2.2.1, hb.2.2.2.1, fun hQ => (hq b hQ).elim hb.2.2.2.2 fun e => by have := hb.2.1; omega⟩) (fun b _ _ => rfl), h.2⟩
theorem BB.less {B : Nat} {P Q : Nat → Prop} {w0 y : World} {bb : Nat} {zs : List Nq} {sl : Value} (h : BB B P w0 y bb zs sl) (hq : ∀ b, Q b → P b) : BB B Q w0 y bb zs sl :=
  ⟨h.bel, h.f, h.ts.sub fun b hb => .inl (hq b hb), h.hb, h.sb, h.sz, fun b hp => h.pr b (hq b hp)⟩
/-- What is made now is protected, too. -/
theorem BB.allocP {B : Nat} {P : Nat → Prop} {w0 y : World} {bb : Nat} {zs : List Nq} {sl : Value} (h : BB B P w0 y bb zs sl) (o : Obj) : BB B (fun b => P b ∨ b = y.heap.size) w0 (y.alloc o) bb zs sl := by
  have hbb := (Array.getElem?_eq_some_iff.1 h.f).1
  have hz : (y.alloc o).heap.size = y.heap.size + 1 := by simp
  have h1 : BB B (fun b => P b ∨ b = y.heap.size) w0 y bb zs sl → BB B (fun b => P b ∨ b = y.heap.size) w0 (y.alloc o) bb zs sl := fun g => g.up ((Below.refl y.heap.size y).alloc (Nat.le_refl _) o)
  have hb0 := (Below.refl y.heap.size y).alloc (Nat.le_refl _) o
  refine ⟨h.bel.trans (hb0.mono h.sz), (hb0.block bb hbb).trans h.f, (h.ts.sub (Q := fun b => P b ∨ b = y.heap.size) fun b hb => hb.elim .inl fun e => .inr (by omega)).up hb0, h.hb, h.sb, Nat.le_trans h.sz hb0.size, fun b hp => ?_⟩
  rcases hp with hp | rfl
  · exact ⟨Nat.lt_of_lt_of_le (h.pr b hp).1 hb0.size, (h.pr b hp).2⟩
  · refine ⟨by omega, by omega, fun e => ?_⟩
    have := (World.ownsRow.lt h.ts.2 _ e.symm).2
    omega
theorem row_form7 {y : World} {B : Nat} {sl : Value} {n : Nat} {xs : List Value} (h : y.ownsRow B 73 7 sl n xs) : ∃ p c, sl = .slice p n c := by
  rcases h.2 with ⟨rfl, rfl⟩ | ⟨g, cap, cur, rfl, _⟩
  · exact ⟨_, _, rfl⟩
  · exact ⟨_, _, rfl⟩
/-- One state more. -/
theorem Ts.app {B bb : Nat} {P : Nat → Prop} {zs : List Nq} {sl sl' : Value} {w w1 w2 : World} {s : Nq} {o : Obj} (h : Ts B bb P zs sl w)
    (hw1 : w1 = w.alloc o) (hs : IVf (fun b => B ≤ b ∧ b < w.heap.size ∧ some b ≠ sl.ownBlock ∧ b ≠ bb ∧ ¬ P b) w s.1.fr (.slice s.2.1 s.1.fr.length s.2.2))
    (hown : w2.ownsRow B 73 7 sl' (zs.length + 1) (flat (zs.map zC) ++ (zC s).toList)) (hg : w1.grownBy w2 sl.ownBlock) (hat : sl'.ownBlock = sl.ownBlock ∨ sl'.ownBlock = some w1.heap.size) : Ts B bb P (zs ++ [s]) sl' w2 := by
  have hsz : w1.heap.size = w.heap.size + 1 := by subst hw1; simp
  have hkeep : ∀ b, b < w.heap.size → some b ≠ sl.ownBlock → w2.heap[b]? = w.heap[b]? := fun b hb hne => by
    rw [hg.block b (by omega) (fun e => hne e), hw1, heap_alloc_old w _ hb]
  have hD : ∀ b, b < w.heap.size → some b ≠ sl.ownBlock → some b ≠ sl'.ownBlock := fun b hb hne e => by
    rcases hat with h | h
    · rw [h] at e; exact hne e
    · rw [h] at e; cases e; omega
  have hgs := hg.size
  refine ⟨fun i hi => ?_, ?_⟩
  · by_cases hlt : i < zs.length
    · rw [List.getElem_append_left hlt]
      exact (h.1 i hlt).mono (fun b hb => ⟨hb.1, by omega, hD b hb.2.1 hb.2.2.1, hb.2.2.2⟩) (fun b hb _ => hkeep b hb.2.1 hb.2.2.1)
    · have hi2 : i = zs.length := by simp at hi; omega
      subst hi2
      have e1 : (zs ++ [s])[zs.length]'hi = s := by simp
      rw [e1]
      exact hs.mono (fun b hb => ⟨hb.1, by omega, hD b hb.2.1 hb.2.2.1, hb.2.2.2⟩) (fun b hb _ => hkeep b hb.2.1 hb.2.2.1)
  · rw [List.map_append, flat_app]
    have e : flat (List.map zC [s]) = (zC s).toList := by simp [flat]
    rw [e, List.length_append]
    exact hown
end Go.Proofs.YthglciccejholaaDoor
end
