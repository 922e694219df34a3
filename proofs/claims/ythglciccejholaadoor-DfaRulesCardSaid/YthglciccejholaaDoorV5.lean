/- Texts of package regs, one behind the other. -/
import Derived.Test.YthglciccejholaaDoorProg
import Derived.Test.YthglciccejholaaDoorV4
import Derived.WalkKit
import Derived.WalkLawsBesides
import Derived.WalkSpells
import Derived.Outline
import Derived.Lib.Walk
import Derived.Lib.Hide
import Derived.Lib.Slices
import Derived.Lib.Strings
import Derived.RegionTactic
import Derived.LoopTactic
import Derived.Below
import Derived.IntWalk
import Derived.Deep.QuietTactic
import Derived.BigQuiet
import Derived.Deep.MidRow
import Derived.Maps.AppendAt
import Derived.Laws.Rows
import Derived.Laws.Tables
import Derived.Deep.WholeRow
import Derived.Deep.Cut
import Derived.Deep.CutRange
import Derived.Lib.SliceRun
import Derived.Laws.MakeOwn
import Derived.Deep.RegionLaw
import Derived.Deep.RegionLawGrows
import Derived.Test.YthglciccejholaaDoorV2
section
/- Package nfa. -/
namespace Go.Proofs.YthglciccejholaaDoor
set_option linter.unusedSimpArgs false
set_option linter.unusedVariables false
set_option maxRecDepth 100000
open Go.RowKit
/- Accepts. -/
theorem FR.fg {B : Nat} {w0 y : World} {F A n : Nat} {stp sl : Value} {la l : List Nat} (h : FR B w0 y F A stp n la l sl) (hn : l ≠ []) : ∃ g cap cs, sl = .slice (some ⟨g, 0, none⟩) l.length cap ∧ FG B w0 y F A stp n la l g cap cs := by
  obtain ⟨g, cap, cs, rfl, h1, h2, h3, h4, h5, h6⟩ := h.reb hn
  exact ⟨g, cap, cs, rfl, ⟨h.bel, h.f, h.a, h2, h5, h4, h6, h.hF, h.hA, h1, h.fa, fun e => h.sF (by simp [Value.ownBlock, e]), fun e => h.sA (by simp [Value.ownBlock, e]), h.sz⟩⟩
end Go.Proofs.YthglciccejholaaDoor
end
section
/- Package nfa. -/
namespace Go.Proofs.YthglciccejholaaDoor
set_option linter.unusedSimpArgs false
set_option linter.unusedVariables false
set_option maxRecDepth 100000
open Go.RowKit
/- NfaBig; SameInts. -/
set_option maxHeartbeats 8000000 in
theorem same_any {D E : Nat → Prop} {w : World} {a b : List Int} {pa pb : Option Addr} {ca cb : Nat} (hla : a.length ≤ 9223372036854775806) (hD : ∀ b, D b → b < w.heap.size) (hE : ∀ b, E b → b < w.heap.size) (ha : IV D w a (.slice pa a.length ca)) (hb : IV E w b (.slice pb b.length cb)) :
    Calls Tryd.prog 43 #[.slice pa a.length ca, .slice pb b.length cb] w fun e w' => e = .returned (.bool (decide (a = b))) ∧ Below w.heap.size w w' := by
  have HA := Lib.hid ha
  have HB := Lib.hid hb
  have HD := Lib.hid hD
  have HE := Lib.hid hE
  have S0 := Lib.hid (Below.refl w.heap.size w)
  clear ha hb hD hE
  by_cases hl : a.length = b.length
  · have HLN := Lib.hid hl
    rw [← hl]
    have hne : (((a.length : Nat) : Int) != ((a.length : Nat) : Int)) = false := by simp
    clear hl
    go_enter Tryd.func43, Tryd.ntmps43
    go_wp2_with fail
    go_loopw [5] (fun i wr => ∃ j : Nat, i = .int .i64 (j : Nat) ∧ j ≤ a.length ∧ Hid (a.take j = b.take j) ∧ Hid (Below w.heap.size w wr)) (fun i _ => a.length - (intOf i).toNat)
    case atStart => exact ⟨0, rfl, by omega, Lib.hid (by simp), S0⟩
    case round =>
      clear S0
      obtain ⟨j, rfl, hj, HT, HS⟩ := hrel
      obtain ⟨wo, rfl⟩ : ∃ wo : World, wo = wr := ⟨_, rfl⟩
      by_cases hlt : j < a.length
      · have hltb : j < b.length := by have := HLN.out; omega
        obtain ⟨p', c', he, hh⟩ := HA.out
        injection he with e1 e2 e3
        subst e1 e3
        clear e2
        obtain ⟨ba, oa, rfl, hba, hca⟩ := hh (by intro e; rw [e] at hlt; simp at hlt)
        obtain ⟨p'', c'', he, hh2⟩ := HB.out
        injection he with e4 e5 e6
        subst e4 e6
        obtain ⟨bb, ob, rfl, hbb, hcb⟩ := hh2 (by intro e; rw [e] at hltb; simp at hltb)
        have ca1 : wo.cell? ⟨ba, oa + j, none⟩ = some (.int .i64 a[j]) := (cell_same (HS.out.block ba (HD.out ba hba)) _).trans (hca j hlt)
        have cb1 : wo.cell? ⟨bb, ob + j, none⟩ = some (.int .i64 b[j]) := (cell_same (HS.out.block bb (HE.out bb hbb)) _).trans (hcb j hltb)
        have ht1 : a.take (j + 1) = a.take j ++ [a[j]] := by rw [List.take_add_one, List.getElem?_eq_getElem hlt]; rfl
        have ht2 : b.take (j + 1) = b.take j ++ [b[j]] := by rw [List.take_add_one, List.getElem?_eq_getElem hltb]; rfl
        have hneq : a[j] ≠ b[j] → a ≠ b := fun h e => h (by subst e; rfl)
        generalize a[j] = x at *
        generalize b[j] = y at *
        have HT1 := Lib.hid ht1
        have HT2 := Lib.hid ht2
        have HNE := Lib.hid hneq
        have hltI : (j : Int) < (a.length : Int) := by omega
        have hjI : ¬ (j : Int) < 0 := by omega
        clear hh hh2 hca hcb ht1 ht2 hneq e5 hltb
        by_cases hxy : x = y
        · have hxI : (x != y) = false := by rw [hxy]; simp
          have HT3 : Hid (a.take (j + 1) = b.take (j + 1)) := Lib.hid (by rw [HT1.out, HT2.out, HT.out, hxy])
          clear HT HNE hxy
          go_wp2_with fail
          go_quiet (fail)
          refine at_worldQ (fun z => Below w.heap.size w z) (below_drewN HS.out _) fun z hz => ?_
          have HS2 := Lib.hid hz
          clear hz HS ca1 cb1
          go_wp2_with fail
          go_roundw
          case rel => exact ⟨j + 1, by go_num, by omega, HT3, HS2⟩
          case measure => simp [intOf]; omega
        · have hxI : (x != y) = true := by simpa using hxy
          have HRES : Hid (decide (a = b) = false) := Lib.hid (by simpa using HNE.out hxy)
          clear HT HNE hxy
          go_wp2_with fail
          go_quiet (fail)
          refine at_worldQ (fun z => Below w.heap.size w z) (below_drewN HS.out _) fun z hz => ?_
          have HS2 := Lib.hid hz
          clear hz HS ca1 cb1
          go_wp2_with fail
          go_ret
          exact ⟨vbool6 HRES.out.symm, HS2.out⟩
      · obtain rfl : j = a.length := by omega
        have hab : a = b := by
          have := HT.out
          rwa [List.take_length, HLN.out, List.take_length] at this
        have HRES : Hid (decide (a = b) = true) := Lib.hid (by simpa using hab)
        have hltI : ¬ (a.length : Int) < (a.length : Int) := by omega
        clear hab
        go_wp2_with fail
        go_ret
        exact ⟨vbool6 HRES.out.symm, HS.out⟩
  · have hne : (((a.length : Nat) : Int) != ((b.length : Nat) : Int)) = true := by simp; omega
    have hr : decide (a = b) = false := by simp; intro e; exact hl (by rw [e])
    rw [hr]
    go_enter Tryd.func43, Tryd.ntmps43
    go_wp2_with fail
    go_ret
    exact ⟨rfl, S0.out⟩
end Go.Proofs.YthglciccejholaaDoor
end
section
/- Package nfa. -/
namespace Go.Proofs.YthglciccejholaaDoor
set_option linter.unusedSimpArgs false
set_option linter.unusedVariables false
set_option maxRecDepth 100000
open Go.RowKit
/- append «to» a row of one's own, as one step of a region that draws. -/
theorem step_append_own {P : Program} {ops : Array Oper} {o : Oper} {a : Act} {w : World} {K : Act → World → Prop} {Q : Exit → Act → World → Prop} {E : Prop}
    (hg : o.guard = none) (s x : Operand) (t : TypeId) (hop : o.op = Op.call { callee := Callee.builtin Builtin.append, args := #[s, x], argTypes := #[t, t] })
    (base : Nat) (e : TypeId) (i : TypeInfo) (z : Value) (size bytes : Nat) (ht : P.underlying t = some (.slice e)) (hi : P.info? e = some i) (hz : i.zero = some z)
    (hsize : i.size = size) (hby : i.bytes = bytes) (hzs : z.cells.size = size) (hsz : 0 < size)
    (v : Value) (n : Nat) (xs : List Value) (hs : a.eval s = v) (hown : w.ownsRow base e size v n xs)
    (ad : Addr) (m c : Nat) (news : List Value) (hx : a.eval x = .slice (some ad) m c) (hl : news.length = m * size) (hnews : ∀ j u, news[j]? = some u → w.cell? (ad.add j) = some u) (h1 : ∀ u ∈ news, u.oneCell' = true)
    (h63 : n + m ≤ maxLen) (hbytes : (n + m) * bytes ≤ 140737488355328) (hbase : base ≤ w.heap.size)
    (h : ∀ v' w', w'.ownsRow base e size v' (n + m) (xs ++ news) → w.grownBy w' v.ownBlock → (v' = .slice none 0 0 ↔ v = .slice none 0 0 ∧ m = 0) → (v'.ownBlock = v.ownBlock ∨ v'.ownBlock = some w.heap.size) → K (a.put o.dst v') w') :
    if Region.wanted o (yielded ops a.tmps) = true then Oper.wp P o a w K Q else E := by
  have hw : Region.wanted o (yielded ops a.tmps) = true := by simp [Region.wanted, hg]
  rw [if_pos hw]
  obtain ⟨v', w', hr, h2, h3, h4, h5⟩ := run_append_own_at (P := P) w base t o.type e i z size bytes ht hi hz hsize hby hzs hsz v n xs hown ad m c news hl hnews h1 h63 hbytes hbase
  unfold Oper.wp execOp
  simp only [hop, resolve, invoke, builtin, Sem.run_bind, Sem.run_pure, Result.andThen_ok, List.map_toArray, List.map_cons, List.map_nil, hs, hx, hr]
  exact h v' w' h2 h3 h4 h5
/- The builder's states. -/
theorem info49b : (Tryd.prog.info? 73).map (fun i => (i.zero, i.size, i.bytes)) = some (some (.agg #[.int .u64 0, .int .u64 0, .int .u64 0, .int .u64 0, .int .i64 0, .slice none 0 0, .int .i64 0]), 7, 72) := by kernel_rfl
def flat : List (Array Value) → List Value
  | [] => []
  | x :: r => x.toList ++ flat r
theorem flat_app : ∀ a b : List (Array Value), flat (a ++ b) = flat a ++ flat b
  | [], b => rfl
  | x :: a, b => by simp only [List.cons_append, flat, flat_app a b, List.append_assoc]
theorem flat_get : ∀ (xs : List (Array Value)), (∀ x ∈ xs, x.size = 7) → ∀ i (h : i < xs.length) j, j < 7 → (flat xs)[i * 7 + j]? = (xs[i])[j]?
  | x :: r, h, 0, _, j, hj => by
    have hx : x.size = 7 := h x (List.mem_cons_self ..)
    rw [flat, Nat.zero_mul, Nat.zero_add, List.getElem?_append_left (by simp [hx]; exact hj)]
    simp
  | x :: r, h, i + 1, hi, j, hj => by
    have hx : x.size = 7 := h x (List.mem_cons_self ..)
    rw [flat, List.getElem?_append_right (by simp [hx]; omega)]
    have := flat_get r (fun y hy => h y (List.mem_cons_of_mem _ hy)) i (by simpa using hi) j hj
    rw [show (i + 1) * 7 + j - x.toList.length = i * 7 + j by simp [hx]; omega, this]
    rfl
/-- A state and its list's slice. -/
abbrev Nq := Nst × Option Addr × Nat
def zC (z : Nq) : Array Value := stC z.1.u z.1.to (.slice z.2.1 z.1.fr.length z.2.2) z.1.rl
theorem zC_size (z : Nq) : (zC z).size = 7 := rfl
theorem flatz_get (zs : List Nq) (i : Nat) (h : i < zs.length) (j : Nat) (hj : j < 7) : (flat (zs.map zC))[i * 7 + j]? = (zC zs[i])[j]? := by
  have h2 := flat_get (zs.map zC) (fun x hx => by obtain ⟨z, _, rfl⟩ := List.mem_map.1 hx; exact zC_size z) i (by simpa using h) j hj
  rw [h2, List.getElem_map]
/-- A list of numbers whose block may be written. -/
def IVf (D : Nat → Prop) (w : World) (l : List Int) (sl : Value) : Prop := ∃ p c, sl = .slice p l.length c ∧ (l ≠ [] → ∃ b o, p = some ⟨b, o, none⟩ ∧ D b ∧ (∀ i (h : i < l.length), w.cell? ⟨b, o + i, none⟩ = some (.int .i64 l[i])) ∧ ∃ cs t, w.heap[b]? = some (.cells cs t (0, 0)))
theorem IVf.mono {D E : Nat → Prop} {w w' : World} (hE : ∀ b, D b → E b) (hw : ∀ b, D b → b < w.heap.size → w'.heap[b]? = w.heap[b]?) {l : List Int} {sl : Value} (h : IVf D w l sl) : IVf E w' l sl := by
  obtain ⟨p, c, rfl, h⟩ := h
  refine ⟨p, c, rfl, fun hn => ?_⟩
  obtain ⟨b, o, hp, hD, hc, cs, t, hf⟩ := h hn
  have hb := hw b hD (Array.getElem?_eq_some_iff.1 hf).1
  exact ⟨b, o, hp, hE b hD, fun i hi => by rw [← hc i hi]; exact cell_same hb _, cs, t, hb.trans hf⟩
theorem IVf.nil (D : Nat → Prop) (w : World) (p : Option Addr) (c : Nat) : IVf D w [] (.slice p 0 c) := ⟨p, c, rfl, fun h => absurd rfl h⟩
theorem IVf.iv {D : Nat → Prop} {w : World} {l : List Int} {sl : Value} (h : IVf D w l sl) : IV D w l sl := by
  obtain ⟨p, c, rfl, h⟩ := h
  refine ⟨p, c, rfl, fun hn => ?_⟩
  obtain ⟨b, o, hp, hD, hc, _⟩ := h hn
  exact ⟨b, o, hp, hD, hc⟩
theorem own_fz {w : World} {B : Nat} {e : TypeId} {size : Nat} {g n c m : Nat} {xs : List Value} (h : w.ownsRow B e size (.slice (some ⟨g, 0, none⟩) n c) m xs) : ∃ cs t, w.heap[g]? = some (.cells cs t (0, 0)) := by
  rcases h.2 with ⟨hv, _⟩ | ⟨g', cap, cur, hv, _, hg, _⟩
  · cases hv
  · cases hv; exact ⟨_, _, hg⟩
/-- States in a row of one's own; their lists lie elsewhere, and not in block bb. -/
def Ts (B bb : Nat) (P : Nat → Prop) (zs : List Nq) (sl : Value) (w : World) : Prop := (∀ i (h : i < zs.length), IVf (fun b => B ≤ b ∧ b < w.heap.size ∧ some b ≠ sl.ownBlock ∧ b ≠ bb ∧ ¬ P b) w zs[i].1.fr (.slice zs[i].2.1 zs[i].1.fr.length zs[i].2.2)) ∧ w.ownsRow B 73 7 sl zs.length (flat (zs.map zC))
/-- A builder in block bb; the blocks of P are others' and stay. -/
structure BB (B : Nat) (P : Nat → Prop) (w0 y : World) (bb : Nat) (zs : List Nq) (sl : Value) : Prop where
  bel : Below B w0 y
  f : y.heap[bb]? = some (.cells #[sl] 77)
  ts : Ts B bb P zs sl y
  hb : B ≤ bb
  sb : sl.ownBlock ≠ some bb
  sz : B ≤ y.heap.size
  pr : ∀ b, P b → b < y.heap.size ∧ b ≠ bb ∧ some b ≠ sl.ownBlock
theorem Ts.up {B bb : Nat} {P : Nat → Prop} {zs : List Nq} {sl : Value} {y z : World} (h : Ts B bb P zs sl y) (hb : Below y.heap.size y z) : Ts B bb P zs sl z := by
  obtain ⟨h3, h4⟩ := h
  refine ⟨fun i hi => (h3 i hi).mono (fun b h => ⟨h.1, Nat.lt_of_lt_of_le h.2.1 hb.size, h.2.2⟩) (fun b h _ => hb.block b h.2.1), ?_⟩
  refine World.ownsRow.kept h4 (row := none) ⟨hb.os, hb.tape, hb.output, hb.size, fun k hk _ => hb.block k hk⟩ ?_
  by_cases hp : sl.ownBlock = none
  · exact .inl hp
  · exact .inr hp
theorem BB.up {B : Nat} {P : Nat → Prop} {w0 y z : World} {bb : Nat} {zs : List Nq} {sl : Value} (h : BB B P w0 y bb zs sl) (hb : Below y.heap.size y z) : BB B P w0 z bb zs sl :=
  ⟨h.bel.trans (hb.mono h.sz), (hb.block bb (Array.getElem?_eq_some_iff.1 h.f).1).trans h.f, h.ts.up hb, h.hb, h.sb, Nat.le_trans h.sz hb.size, fun b hp => ⟨Nat.lt_of_lt_of_le (h.pr b hp).1 hb.size, (h.pr b hp).2⟩⟩
theorem Ts.sub {B bb : Nat} {P Q : Nat → Prop} {zs : List Nq} {sl : Value} {w : World} (h : Ts B bb P zs sl w) (hq : ∀ b, Q b → P b ∨ w.heap.size ≤ b) : Ts B bb Q zs sl w :=
  ⟨fun i hi => (h.1 i hi).mono (fun b hb => ⟨hb.1, hb.2.1, hb.2.2.1, hb.2.2.2.1, fun hQ => (hq b hQ).elim hb.2.2.2.2 fun e => by have := hb.2.1; omega⟩) (fun b _ _ => rfl), h.2⟩
theorem BB.less {B : Nat} {P Q : Nat → Prop} {w0 y : World} {bb : Nat} {zs : List Nq} {sl : Value} (h : BB B P w0 y bb zs sl) (hq : ∀ b, Q b → P b) : BB B Q w0 y bb zs sl :=
  ⟨h.bel, h.f, h.ts.sub fun b hb => .inl (hq b hb), h.hb, h.sb, h.sz, fun b hp => h.pr b (hq b hp)⟩
/-- What is made now is protected, too. -/
theorem BB.allocP {B : Nat} {P : Nat → Prop} {w0 y : World} {bb : Nat} {zs : List Nq} {sl : Value} (h : BB B P w0 y bb zs sl) (o : Obj) : BB B (fun b => P b ∨ b = y.heap.size) w0 (y.alloc o) bb zs sl := by
  have hbb := (Array.getElem?_eq_some_iff.1 h.f).1
  have hz : (y.alloc o).heap.size = y.heap.size + 1 := by simp
  have h1 : BB B (fun b => P b ∨ b = y.heap.size) w0 y bb zs sl → BB B (fun b => P b ∨ b = y.heap.size) w0 (y.alloc o) bb zs sl := fun g => g.up ((Below.refl y.heap.size y).alloc (Nat.le_refl _) o)
  have hb0 := (Below.refl y.heap.size y).alloc (Nat.le_refl _) o
  refine ⟨h.bel.trans (hb0.mono h.sz), (hb0.block bb hbb).trans h.f, (h.ts.sub (Q := fun b => P b ∨ b = y.heap.size) fun b hb => hb.elim .inl fun e => .inr (by omega)).up hb0, h.hb, h.sb, Nat.le_trans h.sz hb0.size, fun b hp => ?_⟩
  rcases hp with hp | rfl
  · exact ⟨Nat.lt_of_lt_of_le (h.pr b hp).1 hb0.size, (h.pr b hp).2⟩
  · refine ⟨by omega, by omega, fun e => ?_⟩
    have := (World.ownsRow.lt h.ts.2 _ e.symm).2
    omega
theorem row_form7 {y : World} {B : Nat} {sl : Value} {n : Nat} {xs : List Value} (h : y.ownsRow B 73 7 sl n xs) : ∃ p c, sl = .slice p n c := by
  rcases h.2 with ⟨rfl, rfl⟩ | ⟨g, cap, cur, rfl, _⟩
  · exact ⟨_, _, rfl⟩
  · exact ⟨_, _, rfl⟩
/-- One state more. -/
theorem Ts.app {B bb : Nat} {P : Nat → Prop} {zs : List Nq} {sl sl' : Value} {w w1 w2 : World} {s : Nq} {o : Obj} (h : Ts B bb P zs sl w)
    (hw1 : w1 = w.alloc o) (hs : IVf (fun b => B ≤ b ∧ b < w.heap.size ∧ some b ≠ sl.ownBlock ∧ b ≠ bb ∧ ¬ P b) w s.1.fr (.slice s.2.1 s.1.fr.length s.2.2))
    (hown : w2.ownsRow B 73 7 sl' (zs.length + 1) (flat (zs.map zC) ++ (zC s).toList)) (hg : w1.grownBy w2 sl.ownBlock) (hat : sl'.ownBlock = sl.ownBlock ∨ sl'.ownBlock = some w1.heap.size) : Ts B bb P (zs ++ [s]) sl' w2 := by
  have hsz : w1.heap.size = w.heap.size + 1 := by subst hw1; simp
  have hkeep : ∀ b, b < w.heap.size → some b ≠ sl.ownBlock → w2.heap[b]? = w.heap[b]? := fun b hb hne => by
    rw [hg.block b (by omega) (fun e => hne e), hw1, heap_alloc_old w _ hb]
  have hD : ∀ b, b < w.heap.size → some b ≠ sl.ownBlock → some b ≠ sl'.ownBlock := fun b hb hne e => by
    rcases hat with h | h
    · rw [h] at e; exact hne e
    · rw [h] at e; cases e; omega
  have hgs := hg.size
  refine ⟨fun i hi => ?_, ?_⟩
  · by_cases hlt : i < zs.length
    · rw [List.getElem_append_left hlt]
      exact (h.1 i hlt).mono (fun b hb => ⟨hb.1, by omega, hD b hb.2.1 hb.2.2.1, hb.2.2.2⟩) (fun b hb _ => hkeep b hb.2.1 hb.2.2.1)
    · have hi2 : i = zs.length := by simp at hi; omega
      subst hi2
      have e1 : (zs ++ [s])[zs.length]'hi = s := by simp
      rw [e1]
      exact hs.mono (fun b hb => ⟨hb.1, by omega, hD b hb.2.1 hb.2.2.1, hb.2.2.2⟩) (fun b hb _ => hkeep b hb.2.1 hb.2.2.1)
  · rw [List.map_append, flat_app]
    have e : flat (List.map zC [s]) = (zC s).toList := by simp [flat]
    rw [e, List.length_append]
    exact hown
end Go.Proofs.YthglciccejholaaDoor
end
section
/- Package nfa. -/
namespace Go.Proofs.YthglciccejholaaDoor
set_option linter.unusedSimpArgs false
set_option linter.unusedVariables false
set_option maxRecDepth 100000
open Go.RowKit
/- add. -/
theorem ret_i6 {a b : Int} (h : a = b) : Ending.returned (.int .i64 a) = .returned (.int .i64 b) := by rw [h]
theorem Ts.box {B bb : Nat} {P : Nat → Prop} {zs : List Nq} {sl : Value} {w : World} (h : Ts B bb P zs sl w) (hne : sl.ownBlock ≠ some bb) (v : Value) : Ts B bb P zs sl (w.setCell ⟨bb, 0, none⟩ v) := by
  obtain ⟨h3, h4⟩ := h
  refine ⟨fun i hi => (h3 i hi).mono (fun b h => ⟨h.1, by simpa using h.2.1, h.2.2⟩) (fun b h _ => heap_setCell_other w ⟨bb, 0, none⟩ b _ h.2.2.2.1), ?_⟩
  refine World.ownsRow.kept h4 (row := some bb) ⟨rfl, rfl, rfl, by simp, fun k hk hne => heap_setCell_other w _ k _ (fun e => hne (by rw [e]))⟩ ?_
  by_cases hp : sl.ownBlock = none
  · exact .inl hp
  · exact .inr hne
set_option maxHeartbeats 8000000 in
theorem add_any {B : Nat} {P : Nat → Prop} {w0 y : World} {bb : Nat} {ss : List Nq} {sl : Value} {u : Nat → Int} {tg rl : Int} {fr : List Int} {q : Option Addr} {f : Nat} (h : BB B P w0 y bb ss sl) (hlen : ss.length ≤ 1000000000)
    (hfr : IVf (fun b => B ≤ b ∧ b < y.heap.size ∧ some b ≠ sl.ownBlock ∧ b ≠ bb ∧ ¬ P b) y fr (.slice q fr.length f)) :
    Calls Tryd.prog 76 #[.pointer (some ⟨bb, 0, none⟩), .agg (stC u tg (.slice q fr.length f) rl)] y fun e y' => e = .returned (.int .i64 (ss.length : Nat)) ∧ (∃ sl', BB B P w0 y' bb (ss ++ [(⟨u, tg, fr, rl⟩, q, f)]) sl') ∧ ∀ b, P b → y'.heap[b]? = y.heap[b]? := by
  obtain ⟨i0, hi, hz0, hz1, hz2⟩ := info_parts info49b
  obtain ⟨p, c, rfl⟩ : ∃ p c, sl = .slice p ss.length c := by
    exact row_form7 h.ts.2
  have hb0 := (Below.refl y.heap.size y).alloc (Nat.le_refl _) (.cells (stC u tg (.slice q fr.length f) rl) 73)
  have H1 := Lib.hid (h.up hb0)
  have HB1 := Lib.hid (heap_alloc_last y (.cells (stC u tg (.slice q fr.length f) rl) 73))
  have HFR : Hid (IVf (fun b => B ≤ b ∧ b < y.heap.size ∧ some b ≠ (Value.slice p ss.length c).ownBlock ∧ b ≠ bb ∧ ¬ P b) (y.alloc (.cells (stC u tg (.slice q fr.length f) rl) 73)) fr (.slice q fr.length f)) := Lib.hid (hfr.mono (fun b h => h) (fun b h _ => hb0.block b h.2.1))
  have HPR := Lib.hid h.pr
  have hsz1 : (y.alloc (.cells (stC u tg (.slice q fr.length f) rl) 73)).heap.size = y.heap.size + 1 := by simp
  have HPK : Hid (∀ b, P b → (y.alloc (.cells (stC u tg (.slice q fr.length f) rl) 73)).heap[b]? = y.heap[b]?) := Lib.hid fun b hp => hb0.block b (h.pr b hp).1
  clear h hfr hb0
  unfold stC at *
  go_enter Tryd.func76, Tryd.ntmps76
  go_upto_region 1 with fail
  refine at_world (fun z => BB B P w0 z bb ss (.slice p ss.length c) ∧ z.heap[y.heap.size]? = some (.cells (stC u tg (.slice q fr.length f) rl) 73) ∧ IVf (fun b => B ≤ b ∧ b < y.heap.size ∧ some b ≠ (Value.slice p ss.length c).ownBlock ∧ b ≠ bb ∧ ¬ P b) z fr (.slice q fr.length f) ∧ z.heap.size = y.heap.size + 1 ∧ ∀ b, P b → z.heap[b]? = y.heap[b]?) ⟨H1.out, HB1.out, HFR.out, hsz1, HPK.out⟩ fun z hz => ?_
  have H2 := Lib.hid hz.1
  have HFR2 := Lib.hid hz.2.2.1
  have HPK2 := Lib.hid hz.2.2.2.2
  have HSZ := Lib.hid hz.2.2.2.1
  have hbx := hz.2.1
  have cb : z.cell? ⟨bb, 0, none⟩ = some (.slice p ss.length c) := cell_of_row z bb 0 _ 77 (0, 0) hz.1.f
  have e0 : z.cell? ⟨y.heap.size, 0, none⟩ = some (.int .u64 (u 0)) := cell_of_row z y.heap.size 0 _ 73 (0, 0) hbx
  have e1 : z.cell? ⟨y.heap.size, 1, none⟩ = some (.int .u64 (u 1)) := cell_of_row z y.heap.size 1 _ 73 (0, 0) hbx
  have e2 : z.cell? ⟨y.heap.size, 2, none⟩ = some (.int .u64 (u 2)) := cell_of_row z y.heap.size 2 _ 73 (0, 0) hbx
  have e3 : z.cell? ⟨y.heap.size, 3, none⟩ = some (.int .u64 (u 3)) := cell_of_row z y.heap.size 3 _ 73 (0, 0) hbx
  have e4 : z.cell? ⟨y.heap.size, 4, none⟩ = some (.int .i64 tg) := cell_of_row z y.heap.size 4 _ 73 (0, 0) hbx
  have e5 : z.cell? ⟨y.heap.size, 5, none⟩ = some (.slice q fr.length f) := cell_of_row z y.heap.size 5 _ 73 (0, 0) hbx
  have e6 : z.cell? ⟨y.heap.size, 6, none⟩ = some (.int .i64 rl) := cell_of_row z y.heap.size 6 _ 73 (0, 0) hbx
  have hbb : bb < z.heap.size := (Array.getElem?_eq_some_iff.1 hz.1.f).1
  have cb2 : ∀ o, (z.alloc o).cell? ⟨bb, 0, none⟩ = some (.slice p ss.length c) := fun o => (cell_same (heap_alloc_old z o hbb) 0).trans cb
  have X3 := Lib.hid hz.1.ts
  have X4 := Lib.hid (World.ownsRow.alloc hz.1.ts.2 (.cells #[.int .u64 (u 0), .int .u64 (u 1), .int .u64 (u 2), .int .u64 (u 3), .int .i64 tg, .slice q fr.length f, .int .i64 rl] 73))
  have hc0 : ∀ j v, (stC u tg (.slice q fr.length f) rl).toList[j]? = some v → (z.alloc (.cells #[.int .u64 (u 0), .int .u64 (u 1), .int .u64 (u 2), .int .u64 (u 3), .int .i64 tg, .slice q fr.length f, .int .i64 rl] 73)).cell? ((⟨z.heap.size, 0, none⟩ : Addr).add j) = some v := fun j v hj => by
    rw [Addr.add_mid, cell_of_row _ z.heap.size (0 + j) _ 73 (0, 0) (heap_alloc_last z _), Nat.zero_add]
    rw [Array.getElem?_toList] at hj; exact hj
  have HC0 := Lib.hid hc0
  have hzsz := hz.1.sz
  have HYA := Lib.hid (show (z.alloc (.cells #[.int .u64 (u 0), .int .u64 (u 1), .int .u64 (u 2), .int .u64 (u 3), .int .i64 tg, .slice q fr.length f, .int .i64 rl] 73)).heap.size = z.heap.size + 1 by simp)
  clear hz hc0 H1 HB1 HFR HPK hsz1
  go_region_law (refine step_append_own rfl (.tmp 9) (.tmp 11) 31 rfl B 73 i0 _ 7 72 Tryd.underlying31 hi hz0 hz1 hz2 rfl (by decide) (.slice p ss.length c) ss.length (flat (ss.map zC)) (by simp [Act.eval, Act.put]) X4.out ⟨z.heap.size, 0, none⟩ 1 1 (stC u tg (.slice q fr.length f) rl).toList (by simp [Act.eval, Act.put]) rfl HC0.out (fun v hv => by simp [stC] at hv; rcases hv with rfl | rfl | rfl | rfl | rfl | rfl | rfl <;> rfl) (by unfold maxLen; omega) (by omega) (by have := HYA.out; show B ≤ (z.alloc _).heap.size; omega) ?_; intro v' w7 hown7 hgrow7 _ hat7; obtain ⟨p7, c7, rfl⟩ := row_form7 hown7; have hF7 : w7.heap[bb]? = some (.cells #[.slice p ss.length c] 77) := (hgrow7.block bb (by have := HYA.out; show bb < (z.alloc _).heap.size; omega) (fun e => H2.out.sb e.symm)).trans ((heap_alloc_old z _ hbb).trans H2.out.f); have hF8 : w7.cell? ⟨bb, 0, none⟩ = some (.slice p ss.length c) := cell_of_row w7 bb 0 _ 77 (0, 0) hF7; have hFf : w7.frozen? ⟨bb, 0, none⟩ = false := frozen_of_row w7 bb 0 _ 77 hF7)
  all_goals
    have hg7 : (z.alloc (.cells #[.int .u64 (u 0), .int .u64 (u 1), .int .u64 (u 2), .int .u64 (u 3), .int .i64 tg, .slice q fr.length f, .int .i64 rl] 73)).grownBy w7 (Value.slice p ss.length c).ownBlock := ⟨hgrow7.os, hgrow7.tape, hgrow7.output, hgrow7.size, hgrow7.block⟩
    have hat8 : (Value.slice p7 (ss.length + 1) c7).ownBlock = (Value.slice p ss.length c).ownBlock ∨ (Value.slice p7 (ss.length + 1) c7).ownBlock = some (z.alloc (.cells #[.int .u64 (u 0), .int .u64 (u 1), .int .u64 (u 2), .int .u64 (u 3), .int .i64 tg, .slice q fr.length f, .int .i64 rl] 73)).heap.size := hat7
    have hya := HYA.out
    have hsz0 := HSZ.out
    have hts : Ts B bb P (ss ++ [(⟨u, tg, fr, rl⟩, q, f)]) (.slice p7 (ss.length + 1) c7) w7 := Ts.app (s := (⟨u, tg, fr, rl⟩, q, f)) X3.out rfl (HFR2.out.mono (fun b h => ⟨h.1, by omega, h.2.2⟩) (fun b h _ => rfl)) hown7 hg7 hat8
    have hbel7 : Below B w0 w7 := below_grown (H2.out.bel.alloc H2.out.sz _) hg7 (fun g hg => (World.ownsRow.lt X4.out g hg).1) (by omega)
    have hsz7 := hg7.size
    have hnb : (Value.slice p7 (ss.length + 1) c7).ownBlock ≠ some bb := by
      rcases hat8 with e | e
      · rw [e]; exact H2.out.sb
      · rw [e]; intro h; cases h; omega
    have H8 : Hid (BB B P w0 (w7.setCell ⟨bb, 0, none⟩ (.slice p7 (ss.length + 1) c7)) bb (ss ++ [(⟨u, tg, fr, rl⟩, q, f)]) (.slice p7 (ss.length + 1) c7)) := Lib.hid ⟨hbel7.setCell (p := ⟨bb, 0, none⟩) H2.out.hb _, heap_setCell_same w7 bb 0 _ 77 _ hF7, hts.box hnb _, H2.out.hb, hnb, by simp; omega, fun b hp => by
      have h9 := HPR.out b hp
      refine ⟨by simp; omega, h9.2.1, ?_⟩
      rcases hat8 with e | e
      · rw [e]; exact h9.2.2
      · rw [e]; intro h; cases h; omega⟩
    have HPK3 : Hid (∀ b, P b → (w7.setCell ⟨bb, 0, none⟩ (.slice p7 (ss.length + 1) c7)).heap[b]? = y.heap[b]?) := Lib.hid fun b hp => by
      have h9 := HPR.out b hp
      rw [heap_setCell_other w7 ⟨bb, 0, none⟩ b _ h9.2.1, hg7.block b (by omega) (fun e => h9.2.2 e), heap_alloc_old z _ (by omega), HPK2.out b hp]
    clear hg7 hat8 hat7 hown7 hgrow7 hts hbel7 hnb hF7 hF8 hFf X3 X4 HC0 H2 HFR2 HPK2 cb2
    refine at_worldQ (fun x => BB B P w0 x bb (ss ++ [(⟨u, tg, fr, rl⟩, q, f)]) (.slice p7 (ss.length + 1) c7) ∧ ∀ b, P b → x.heap[b]? = y.heap[b]?) ⟨H8.out, HPK3.out⟩ fun x hx => ?_
    have H9 := Lib.hid hx
    have cx : x.cell? ⟨bb, 0, none⟩ = some (.slice p7 (ss.length + 1) c7) := cell_of_row x bb 0 _ 77 (0, 0) hx.1.f
    clear hx H8 HPK3 e0 e1 e2 e3 e4 e5 e6 cb hbx
    go_wp2_with fail
    go_ret
    exact ⟨ret_i6 (by omega), ⟨_, H9.out.1⟩, H9.out.2⟩
end Go.Proofs.YthglciccejholaaDoor
end
section
/- Package nfa. -/
namespace Go.Proofs.YthglciccejholaaDoor
set_option linter.unusedSimpArgs false
set_option linter.unusedVariables false
set_option maxRecDepth 100000
open Go.RowKit
/- end; free; what is laid of a set. -/
theorem bend (r : Int) : Tryd.prog.built 73 [(1, .int .i64 (-1)), (3, .int .i64 r)] = some (stC uZ (-1) (.slice none 0 0) r) := by kernel_rfl
theorem wpList_bend {ops : Array Oper} {rest : List Oper} {o : Oper} {a : Act} {w : World} {Q : Exit → Act → World → Prop} {x y : Operand} {r : Int} (hg : o.guard = none) (ho : o.op = .build 73 #[(1, x), (3, y)]) (hx : a.eval x = .int .i64 (-1)) (hy : a.eval y = .int .i64 r)
    (h : wpList Tryd.prog ops Q rest (a.put o.dst (.agg (stC uZ (-1) (.slice none 0 0) r))) w) : wpList Tryd.prog ops Q (o :: rest) a w := by
  refine wpList_build hg 73 _ ho ?_ ?_
  · simp [hx, hy, bend]
  · simp [hx, hy, bend]; exact h
theorem bfree (p : Option Addr) (n c : Nat) : Tryd.prog.built 73 [(1, .int .i64 (-1)), (2, .slice p n c), (3, .int .i64 (-1))] = some (stC uZ (-1) (.slice p n c) (-1)) := by kernel_rfl
theorem wpList_bfree {ops : Array Oper} {rest : List Oper} {o : Oper} {a : Act} {w : World} {Q : Exit → Act → World → Prop} {x y z : Operand} {p : Option Addr} {n c : Nat} (hg : o.guard = none) (ho : o.op = .build 73 #[(1, x), (2, y), (3, z)]) (hx : a.eval x = .int .i64 (-1)) (hy : a.eval y = .slice p n c) (hz : a.eval z = .int .i64 (-1))
    (h : wpList Tryd.prog ops Q rest (a.put o.dst (.agg (stC uZ (-1) (.slice p n c) (-1)))) w) : wpList Tryd.prog ops Q (o :: rest) a w := by
  refine wpList_build hg 73 _ ho ?_ ?_
  · simp [hx, hy, hz, bfree]
  · simp [hx, hy, hz, bfree]; exact h
theorem bset (u : Nat → Int) (t : Int) : Tryd.prog.built 73 [(0, uV u), (1, .int .i64 t), (3, .int .i64 (-1))] = some (stC u t (.slice none 0 0) (-1)) := by kernel_rfl
theorem wpList_bset {ops : Array Oper} {rest : List Oper} {o : Oper} {a : Act} {w : World} {Q : Exit → Act → World → Prop} {x y z : Operand} {u : Nat → Int} {t : Int} (hg : o.guard = none) (ho : o.op = .build 73 #[(0, x), (1, y), (3, z)]) (hx : a.eval x = uV u) (hy : a.eval y = .int .i64 t) (hz : a.eval z = .int .i64 (-1))
    (h : wpList Tryd.prog ops Q rest (a.put o.dst (.agg (stC u t (.slice none 0 0) (-1)))) w) : wpList Tryd.prog ops Q (o :: rest) a w := by
  refine wpList_build hg 73 _ ho ?_ ?_
  · simp [hx, hy, hz, bset]
  · simp [hx, hy, hz, bset]; exact h
set_option maxHeartbeats 4000000 in
theorem end_any {B : Nat} {P : Nat → Prop} {w0 y : World} {bb : Nat} {ss : List Nq} {sl : Value} {r : Int} (h : BB B P w0 y bb ss sl) (hlen : ss.length ≤ 1000000000) :
    Calls Tryd.prog 40 #[.pointer (some ⟨bb, 0, none⟩), .int .i64 r] y fun e y' => e = .returned (.int .i64 (ss.length : Nat)) ∧ (∃ sl', BB B P w0 y' bb (ss ++ [(⟨uZ, -1, [], r⟩, none, 0)]) sl') ∧ ∀ b, P b → y'.heap[b]? = y.heap[b]? := by
  have HC := Lib.hid (add_any (u := uZ) (tg := -1) (rl := r) (fr := []) (q := none) (f := 0) h hlen (IVf.nil _ _ _ _))
  rw [List.length_nil] at HC
  clear h
  go_enter Tryd.func40, Tryd.ntmps40
  go_wp2_with (refine wpList_bend (r := r) rfl rfl rfl rfl ?_)
  refine HC.out.mono ?_
  rintro _ y1 ⟨rfl, h1, h2⟩
  have H1 := Lib.hid h1
  have H2 := Lib.hid h2
  clear h1 h2 HC
  go_wp2_with fail
  go_ret
  exact ⟨rfl, H1.out, H2.out⟩
set_option maxHeartbeats 4000000 in
theorem free_any {B : Nat} {P : Nat → Prop} {w0 y : World} {bb : Nat} {ss : List Nq} {sl : Value} {fr : List Int} {q : Option Addr} {f : Nat} (h : BB B P w0 y bb ss sl) (hlen : ss.length ≤ 1000000000) (hfr : IVf (fun b => B ≤ b ∧ b < y.heap.size ∧ some b ≠ sl.ownBlock ∧ b ≠ bb ∧ ¬ P b) y fr (.slice q fr.length f)) :
    Calls Tryd.prog 41 #[.pointer (some ⟨bb, 0, none⟩), .slice q fr.length f] y fun e y' => e = .returned (.int .i64 (ss.length : Nat)) ∧ (∃ sl', BB B P w0 y' bb (ss ++ [(⟨uZ, -1, fr, -1⟩, q, f)]) sl') ∧ ∀ b, P b → y'.heap[b]? = y.heap[b]? := by
  have HC := Lib.hid (add_any (u := uZ) (tg := -1) (rl := -1) h hlen hfr)
  clear h hfr
  go_enter Tryd.func41, Tryd.ntmps41
  go_wp2_with (refine wpList_bfree (p := q) (n := fr.length) (c := f) rfl rfl rfl rfl rfl ?_)
  refine HC.out.mono ?_
  rintro _ y1 ⟨rfl, h1, h2⟩
  have H1 := Lib.hid h1
  have H2 := Lib.hid h2
  clear h1 h2 HC
  go_wp2_with fail
  go_ret
  exact ⟨rfl, H1.out, H2.out⟩
/-- A pattern's cells. -/
def nodeC (k : Int) (u : Nat → Int) (sl : Value) : Array Value := #[.int .i64 k, .int .u64 (u 0), .int .u64 (u 1), .int .u64 (u 2), .int .u64 (u 3), sl]
set_option maxHeartbeats 4000000 in
theorem lay_set {B : Nat} {P : Nat → Prop} {w0 y : World} {bb : Nat} {ss : List Nq} {sl : Value} {u : Nat → Int} {t : Int} {p : Option Addr} {n c : Nat} (h : BB B P w0 y bb ss sl) (hlen : ss.length ≤ 1000000000) :
    Calls Tryd.prog 39 #[.pointer (some ⟨bb, 0, none⟩), .agg (nodeC 2 u (.slice p n c)), .int .i64 t] y fun e y' => e = .returned (.int .i64 (ss.length : Nat)) ∧ (∃ sl', BB B P w0 y' bb (ss ++ [(⟨u, t, [], -1⟩, none, 0)]) sl') ∧ ∀ b, P b → y'.heap[b]? = y.heap[b]? := by
  have hb0 := (((Below.refl y.heap.size y).alloc (Nat.le_refl _) (.cells #[.pointer (some ⟨bb, 0, none⟩)] 118)).alloc (by simp) (.cells (nodeC 2 u (.slice p n c)) 27)).alloc (by simp; omega) (.cells #[.int .i64 t] 3)
  have HC := Lib.hid (add_any (u := u) (tg := t) (rl := -1) (fr := []) (q := none) (f := 0) (h.up hb0) hlen (IVf.nil _ _ _ _))
  rw [List.length_nil] at HC
  have HK := Lib.hid fun b (hp : P b) => hb0.block b (h.pr b hp).1
  clear h hb0
  unfold nodeC at *
  go_enter Tryd.func39, Tryd.ntmps39
  go_wp2_with (refine wpList_bset (u := u) (t := t) rfl rfl rfl rfl rfl ?_)
  refine HC.out.mono ?_
  rintro _ y1 ⟨rfl, h1, h2⟩
  have H1 := Lib.hid h1
  have H2 := Lib.hid h2
  clear h1 h2 HC
  go_wp2_with fail
  go_ret
  exact ⟨rfl, H1.out, fun b hp => (H2.out b hp).trans (HK.out b hp)⟩
end Go.Proofs.YthglciccejholaaDoor
end
