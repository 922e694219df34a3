/- Texts of package regs, one behind the other. -/
import Derived.Test.YtemkppjdfjoipaaProg
import Derived.Test.YtemkppjdfjoipaaV1
import Derived.Great.BuildSlice
import Derived.WalkKit
import Derived.Maps.OwnSet
import Derived.Maps.OwnOps
import Derived.Maps.Own
import Derived.DeepKeys5
import Derived.BigFrame
import Derived.WalkMore
import Derived.ScopeJumps
import Derived.StillTailTactics
import Derived.Stop.BytesEq
import Derived.WalkLawsBesides
import Derived.WalkSpells
import Derived.Outline
import Derived.Lib.Walk
import Derived.Lib.Hide
import Derived.Lib.Slices
import Derived.Lib.Strings
import Derived.RegionTactic
import Derived.LoopTactic
import Derived.Below
import Derived.IntWalk
import Derived.Deep.QuietTactic
import Derived.BigQuiet
import Derived.Deep.MidRow
import Derived.Maps.AppendAt
import Derived.Laws.Rows
import Derived.Laws.Tables
import Derived.Deep.WholeRow
import Derived.Deep.Cut
import Derived.Deep.CutRange
import Derived.Lib.SliceRun
import Derived.Laws.MakeOwn
import Derived.Deep.RegionLaw
import Derived.Deep.RegionLawGrows
import Derived.Deep.RegionHeld3
import Derived.RegionCalls
import Derived.Deep.RegionWith
import Derived.Deep.Light
import Derived.Laws.CopyOwn
import Derived.Laws.ResultCell
section
/- Package indent. -/
namespace Go.Proofs.Ytemkppjdfjoipaa.I1
set_option linter.unusedSimpArgs false
set_option linter.unusedVariables false
set_option maxRecDepth 100000
open Go.RowKit
/- Automata without choice in memory. -/
theorem blk_lt {w : World} {b o : Nat} {v : Value} (h : w.cell? ⟨b, o, none⟩ = some v) : b < w.heap.size := World.block_lt_of_cell? w _ h
theorem cell_same {w w' : World} {b : Nat} (h : w'.heap[b]? = w.heap[b]?) (o : Nat) : w'.cell? ⟨b, o, none⟩ = w.cell? ⟨b, o, none⟩ := by
  unfold World.cell?; simp only [h]
/-- A list of numbers. -/
def IV (D : Nat → Prop) (w : World) (l : List Int) (sl : Value) : Prop := ∃ p c, sl = .slice p l.length c ∧ (l ≠ [] → ∃ b o, p = some ⟨b, o, none⟩ ∧ D b ∧ ∀ i (h : i < l.length), w.cell? ⟨b, o + i, none⟩ = some (.int .i64 l[i]))
theorem IV.mono {D E : Nat → Prop} {w w' : World} (hE : ∀ b, D b → E b) (hw : ∀ b, D b → b < w.heap.size → w'.heap[b]? = w.heap[b]?) {l : List Int} {sl : Value} (h : IV D w l sl) : IV E w' l sl := by
  obtain ⟨p, c, rfl, h⟩ := h
  refine ⟨p, c, rfl, fun hn => ?_⟩
  obtain ⟨b, o, hp, hD, hc⟩ := h hn
  refine ⟨b, o, hp, hE b hD, fun i hi => ?_⟩
  rw [← hc i hi]
  exact cell_same (hw b hD (blk_lt (hc i hi))) _
theorem IV.nil (D : Nat → Prop) (w : World) (p : Option Addr) (c : Nat) : IV D w [] (.slice p 0 c) := ⟨p, c, rfl, fun h => absurd rfl h⟩
def bl (s : ByteArray) : List Nat := s.data.toList.map UInt8.toNat
theorem bl_len (s : ByteArray) : (bl s).length = s.size := by simp [bl]
/- TwinInts, SameInts, LeftInts. -/
theorem vint6 {k : IntKind} {a b : Int} (h : a = b) : Value.int k a = .int k b := by rw [h]
theorem vbool6 {a b : Bool} (h : a = b) : Ending.returned (.bool a) = .returned (.bool b) := by rw [h]
theorem run_append_zero {P : Program} (w : World) (t ty e : TypeId) (i : TypeInfo) (ht : P.underlying t = some (.slice e)) (hi : P.info? e = some i) (a : Addr) (n c : Nat) (q : Option Addr) (c' : Nat) (hn : n ≤ c) :
    Sem.run P (Builtin.append_ #[t, t] ty #[.slice (some a) n c, .slice q 0 c']) w = .ok (.slice (some a) n c) w := by
  cases q <;> simp [Builtin.append_, underlying, ht, hi, Go.sizeOf, Go.typeInfo, Builtin.firstCells, storeCells, hn, go_sem]
theorem wpList_append_zero {P : Program} (w : World) {ops : Array Oper} {rest : List Oper} {o : Oper} {a : Act} {Q : Exit → Act → World → Prop} (hgd : o.guard = none) (s x : Operand) (t : TypeId)
    (ho : o.op = .call { callee := .builtin .append, args := #[s, x], argTypes := #[t, t] })
    (e : TypeId) (i : TypeInfo) (ht : P.underlying t = some (.slice e)) (hi : P.info? e = some i) (ad : Addr) (n c : Nat) (hs : a.eval s = .slice (some ad) n c) (q : Option Addr) (c' : Nat) (hx : a.eval x = .slice q 0 c') (hn : n ≤ c)
    (h : wpList P ops Q rest (a.put o.dst (.slice (some ad) n c)) w) : wpList P ops Q (o :: rest) a w := by
  refine wpList_plain hgd fun K hK => ?_
  have hr := run_append_zero (P := P) w t o.type e i ht hi ad n c q c' hn
  unfold Oper.wp execOp
  simp only [ho, resolve, invoke, builtin, Sem.run_bind, Sem.run_pure, Result.andThen_ok, List.map_toArray, List.map_cons, List.map_nil, hs, hx, hr]
  exact hK _ _ h
theorem info3b : (Try.prog.info? 3).map (fun i => (i.zero, i.size, i.bytes)) = some (some (.int .i64 0), 1, 8) := by kernel_rfl
def zi (l : List Int) : List Value := l.map fun x => .int .i64 x
theorem zi_one (l : List Int) : ∀ v ∈ zi l, v.oneCell' = true := by
  intro v hv
  obtain ⟨x, _, rfl⟩ := List.mem_map.1 hv
  rfl
def mk7 (k : Nat) : List Int := (List.range k).map fun i : Nat => (-7000 - (i : Int))
theorem mk7_succ (k : Nat) : mk7 (k + 1) = mk7 k ++ [-7000 - (k : Int)] := by simp [mk7, List.range_succ]
theorem mk7_len (k : Nat) : (mk7 k).length = k := by simp [mk7]
theorem row_own {w : World} {B : Nat} {e : TypeId} {size : Nat} {v : Value} {n : Nat} {xs : List Value} (h : w.ownsRow B e size v n xs) (hn : 0 < n) :
    ∃ g cap, v = .slice (some ⟨g, 0, none⟩) n cap ∧ n ≤ cap := by
  rcases h.2 with ⟨_, h0⟩ | ⟨g, cap, cur, hv, _, _, hc, _⟩
  · omega
  · exact ⟨g, cap, hv, hc⟩
/-- A twin of a list of numbers: new memory, three marks behind it. -/
def TI (B : Nat) (w : World) (l : List Int) (v : Value) : Prop := ∃ g cap, v = .slice (some ⟨g, 0, none⟩) l.length cap ∧ w.ownsRow B 3 1 (.slice (some ⟨g, 0, none⟩) (l.length + 3) cap) (l.length + 3) (zi (l ++ mk7 3))
/-- The loop behind the first append. -/
def TwI (w : World) (l : List Int) (e : Ending) (w' : World) : Prop := ∃ v, e = .returned v ∧ TI w.heap.size w' l v ∧ Below w.heap.size w w'
theorem at_worldQ {Q : Exit → Act → World → Prop} {e : Exit} {a : Act} {w : World} (R : World → Prop) (hR : R w) (h : ∀ y, R y → Q e a y) : Q e a w := h w hR
theorem at_world {P : Program} {c : Code} {Q : Exit → Act → World → Prop} {a : Act} {w : World} (R : World → Prop) (hR : R w) (h : ∀ y, R y → c.wp P Q a y) : c.wp P Q a w := h w hR
theorem below_grown {B : Nat} {w0 w w' : World} {row : Option Nat} (h : Below B w0 w) (hg : w.grownBy w' row) (hr : ∀ g, row = some g → B ≤ g) (hB : B ≤ w.heap.size) : Below B w0 w' :=
  ⟨hg.os.trans h.os, hg.tape.trans h.tape, hg.output.trans h.output, Nat.le_trans h.size hg.size, fun k hk => (hg.block k (by omega) (fun e => by have := hr k e.symm; omega)).trans (h.block k hk)⟩
theorem below_drewN {B : Nat} {w0 w : World} (h : Below B w0 w) (n : Nat) : Below B w0 (w.drewN n) := ⟨h.os, h.tape, h.output, h.size, h.block⟩
set_option maxHeartbeats 8000000 in
theorem same_any {D E : Nat → Prop} {w : World} {a b : List Int} {pa pb : Option Addr} {ca cb : Nat} (hla : a.length ≤ 9223372036854775806) (hD : ∀ b, D b → b < w.heap.size) (hE : ∀ b, E b → b < w.heap.size) (ha : IV D w a (.slice pa a.length ca)) (hb : IV E w b (.slice pb b.length cb)) :
    Calls Try.prog 35 #[.slice pa a.length ca, .slice pb b.length cb] w fun e w' => e = .returned (.bool (decide (a = b))) ∧ Below w.heap.size w w' := by
  have HA := Lib.hid ha
  have HB := Lib.hid hb
  have HD := Lib.hid hD
  have HE := Lib.hid hE
  have S0 := Lib.hid (Below.refl w.heap.size w)
  clear ha hb hD hE
  by_cases hl : a.length = b.length
  · have HLN := Lib.hid hl
    rw [← hl]
    have hne : (((a.length : Nat) : Int) != ((a.length : Nat) : Int)) = false := by simp
    clear hl
    go_enter Try.func35, Try.ntmps35
    go_wp2_with fail
    go_loopw [5] (fun i wr => ∃ j : Nat, i = .int .i64 (j : Nat) ∧ j ≤ a.length ∧ Hid (a.take j = b.take j) ∧ Hid (Below w.heap.size w wr)) (fun i _ => a.length - (intOf i).toNat)
    case atStart => exact ⟨0, rfl, by omega, Lib.hid (by simp), S0⟩
    case round =>
      clear S0
      obtain ⟨j, rfl, hj, HT, HS⟩ := hrel
      obtain ⟨wo, rfl⟩ : ∃ wo : World, wo = wr := ⟨_, rfl⟩
      by_cases hlt : j < a.length
      · have hltb : j < b.length := by have := HLN.out; omega
        obtain ⟨p', c', he, hh⟩ := HA.out
        injection he with e1 e2 e3
        subst e1 e3
        clear e2
        obtain ⟨ba, oa, rfl, hba, hca⟩ := hh (by intro e; rw [e] at hlt; simp at hlt)
        obtain ⟨p'', c'', he, hh2⟩ := HB.out
        injection he with e4 e5 e6
        subst e4 e6
        obtain ⟨bb, ob, rfl, hbb, hcb⟩ := hh2 (by intro e; rw [e] at hltb; simp at hltb)
        have ca1 : wo.cell? ⟨ba, oa + j, none⟩ = some (.int .i64 a[j]) := (cell_same (HS.out.block ba (HD.out ba hba)) _).trans (hca j hlt)
        have cb1 : wo.cell? ⟨bb, ob + j, none⟩ = some (.int .i64 b[j]) := (cell_same (HS.out.block bb (HE.out bb hbb)) _).trans (hcb j hltb)
        have ht1 : a.take (j + 1) = a.take j ++ [a[j]] := by rw [List.take_add_one, List.getElem?_eq_getElem hlt]; rfl
        have ht2 : b.take (j + 1) = b.take j ++ [b[j]] := by rw [List.take_add_one, List.getElem?_eq_getElem hltb]; rfl
        have hneq : a[j] ≠ b[j] → a ≠ b := fun h e => h (by subst e; rfl)
        generalize a[j] = x at *
        generalize b[j] = y at *
        have HT1 := Lib.hid ht1
        have HT2 := Lib.hid ht2
        have HNE := Lib.hid hneq
        have hltI : (j : Int) < (a.length : Int) := by omega
        have hjI : ¬ (j : Int) < 0 := by omega
        clear hh hh2 hca hcb ht1 ht2 hneq e5 hltb
        by_cases hxy : x = y
        · have hxI : (x != y) = false := by rw [hxy]; simp
          have HT3 : Hid (a.take (j + 1) = b.take (j + 1)) := Lib.hid (by rw [HT1.out, HT2.out, HT.out, hxy])
          clear HT HNE hxy
          go_wp2_with fail
          go_quiet (fail)
          refine at_worldQ (fun z => Below w.heap.size w z) (below_drewN HS.out _) fun z hz => ?_
          have HS2 := Lib.hid hz
          clear hz HS ca1 cb1
          go_wp2_with fail
          go_roundw
          case rel => exact ⟨j + 1, by go_num, by omega, HT3, HS2⟩
          case measure => simp [intOf]; omega
        · have hxI : (x != y) = true := by simpa using hxy
          have HRES : Hid (decide (a = b) = false) := Lib.hid (by simpa using HNE.out hxy)
          clear HT HNE hxy
          go_wp2_with fail
          go_quiet (fail)
          refine at_worldQ (fun z => Below w.heap.size w z) (below_drewN HS.out _) fun z hz => ?_
          have HS2 := Lib.hid hz
          clear hz HS ca1 cb1
          go_wp2_with fail
          go_ret
          exact ⟨vbool6 HRES.out.symm, HS2.out⟩
      · obtain rfl : j = a.length := by omega
        have hab : a = b := by
          have := HT.out
          rwa [List.take_length, HLN.out, List.take_length] at this
        have HRES : Hid (decide (a = b) = true) := Lib.hid (by simpa using hab)
        have hltI : ¬ (a.length : Int) < (a.length : Int) := by omega
        clear hab
        go_wp2_with fail
        go_ret
        exact ⟨vbool6 HRES.out.symm, HS.out⟩
  · have hne : (((a.length : Nat) : Int) != ((b.length : Nat) : Int)) = true := by simp; omega
    have hr : decide (a = b) = false := by simp; intro e; exact hl (by rw [e])
    rw [hr]
    go_enter Try.func35, Try.ntmps35
    go_wp2_with fail
    go_ret
    exact ⟨rfl, S0.out⟩
theorem zi_len (l : List Int) : (zi l).length = l.length := by simp [zi]
theorem mk7_get {k : Nat} (h : k < 3) (l : List Int) : (zi (l ++ mk7 3))[l.length + k]? = some (.int .i64 (-7000 - (k : Int))) := by
  rw [zi, List.getElem?_map, List.getElem?_append_right (by omega), show l.length + k - l.length = k by omega]
  rcases (by omega : k = 0 ∨ k = 1 ∨ k = 2) with rfl | rfl | rfl <;> rfl
theorem ti_row {B g cap : Nat} {w : World} {l : List Int} (h : w.ownsRow B 3 1 (.slice (some ⟨g, 0, none⟩) (l.length + 3) cap) (l.length + 3) (zi (l ++ mk7 3))) :
    (∀ i (hi : i < l.length), w.cell? ⟨g, i, none⟩ = some (.int .i64 l[i])) ∧ (∀ k, k < 3 → w.cell? ⟨g, l.length + k, none⟩ = some (.int .i64 (-7000 - (k : Int)))) ∧ l.length + 3 ≤ cap ∧ B ≤ g ∧ g < w.heap.size := by
  refine ⟨fun i hi => ?_, fun k hk => ?_, ?_, (h.lt g rfl).1, (h.lt g rfl).2⟩
  · have := h.cells (g := g) rfl i (.int .i64 l[i]) (by
      rw [zi, List.getElem?_map, List.getElem?_append_left hi, List.getElem?_eq_getElem hi]; rfl)
    rwa [Addr.add_mid, Nat.zero_add] at this
  · have := h.cells (g := g) rfl (l.length + k) _ (mk7_get hk l)
    rwa [Addr.add_mid, Nat.zero_add] at this
  · obtain ⟨g', cap', he, hc⟩ := row_own h (by omega)
    injection he with e1 e2 e3
    omega
theorem ti_iv {B g cap : Nat} {w : World} {l : List Int} (h : w.ownsRow B 3 1 (.slice (some ⟨g, 0, none⟩) (l.length + 3) cap) (l.length + 3) (zi (l ++ mk7 3))) : IV (fun b => b = g) w l (.slice (some ⟨g, 0, none⟩) l.length cap) := by
  obtain ⟨h1, _⟩ := ti_row h
  exact ⟨_, _, rfl, fun _ => ⟨g, 0, rfl, rfl, fun i hi => by rw [Nat.zero_add]; exact h1 i hi⟩⟩
end Go.Proofs.Ytemkppjdfjoipaa.I1
end
section
/- Package indent. -/
namespace Go.Proofs.Ytemkppjdfjoipaa.I1
set_option linter.unusedSimpArgs false
set_option linter.unusedVariables false
set_option maxRecDepth 100000
open Go.RowKit
theorem row_form {y : World} {B : Nat} {e : TypeId} {sl : Value} {n : Nat} {xs : List Value} {k : Nat} (h : y.ownsRow B e k sl n xs) : ∃ p c, sl = .slice p n c := by
  rcases h.2 with ⟨rfl, rfl⟩ | ⟨g, cap, cur, rfl, _⟩
  · exact ⟨_, _, rfl⟩
  · exact ⟨_, _, rfl⟩
theorem row_base {w : World} {B C : Nat} {e : TypeId} {size : Nat} {v : Value} {n : Nat} {xs : List Value} (h : w.ownsRow B e size v n xs) (hc : C ≤ B) : w.ownsRow C e size v n xs := by
  refine ⟨h.1, ?_⟩
  rcases h.2 with h1 | ⟨g, cap, cur, hv, hb, hr⟩
  · exact .inl h1
  · exact .inr ⟨g, cap, cur, hv, Nat.le_trans hc hb, hr⟩
/- What lies in the blocks that a call has made. -/
theorem below_row {B b : Nat} {w w' : World} (h : Below B w w') (hb : B ≤ b) (cs : Array Value) : Below B w (w'.setRow b cs) :=
  ⟨h.os, h.tape, h.output, by simpa using h.size, fun k hk => (setRow_other w' b k cs (by omega)).trans (h.block k hk)⟩
def Sb (w0 w : World) (L : List (Nat × Obj)) : Prop := Below w0.heap.size w0 w ∧ ∀ c ∈ L, w0.heap.size ≤ c.1 ∧ w.heap[c.1]? = some c.2
variable {w0 w w' : World} {L M : List (Nat × Obj)}
theorem Sb.start (w : World) : Sb w w [] := ⟨Below.refl _ _, by simp⟩
theorem Sb.up (h : Sb w0 w L) (hb : Below w.heap.size w w') : Sb w0 w' L :=
  ⟨h.1.trans (hb.mono h.1.size), fun c hc => ⟨(h.2 c hc).1, (hb.block _ (Array.getElem?_eq_some_iff.1 (h.2 c hc).2).1).trans (h.2 c hc).2⟩⟩
theorem Sb.drewN (h : Sb w0 w L) (n : Nat) : Sb w0 (w.drewN n) L := ⟨below_drewN h.1 n, h.2⟩
theorem Sb.drew (h : Sb w0 w L) : Sb w0 w.drew L := h.drewN 1
theorem Sb.alloc (h : Sb w0 w L) (o : Obj) : Sb w0 (w.alloc o) ((w.heap.size, o) :: L) := by
  have h1 : Sb w0 (w.alloc o) L := h.up ((Below.refl _ _).alloc (Nat.le_refl _) _)
  refine ⟨h1.1, fun c hc => ?_⟩
  rcases List.mem_cons.1 hc with rfl | hc
  · exact ⟨h.1.size, heap_alloc_last w o⟩
  · exact h1.2 c hc
theorem Sb.sub (h : Sb w0 w L) (hs : ∀ c ∈ M, c ∈ L) : Sb w0 w M := ⟨h.1, fun c hc => h.2 c (hs c hc)⟩
theorem Sb.set {b i : Nat} {cs : Array Value} {t : TypeId} (h : Sb w0 w ((b, .cells cs t (0, 0)) :: L)) (v : Value) (hne : ∀ c ∈ L, c.1 ≠ b) :
    Sb w0 (w.setCell ⟨b, i, none⟩ v) ((b, .cells (cs.setIfInBounds i v) t (0, 0)) :: L) := by
  have hb := h.2 _ (List.mem_cons_self ..)
  refine ⟨h.1.setCell (p := ⟨b, i, none⟩) hb.1 _, fun c hc => ?_⟩
  rcases List.mem_cons.1 hc with rfl | hc
  · exact ⟨hb.1, heap_setCell_same w b i cs t v hb.2⟩
  · exact ⟨(h.2 c (List.mem_cons_of_mem _ hc)).1, (heap_setCell_other w _ c.1 v (hne c hc)).trans (h.2 c (List.mem_cons_of_mem _ hc)).2⟩
theorem Sb.setRow {b : Nat} {cs cs' : Array Value} {t : TypeId} (h : Sb w0 w ((b, .cells cs t (0, 0)) :: L)) (hne : ∀ c ∈ L, c.1 ≠ b) :
    Sb w0 (w.setRow b cs') ((b, .cells cs' t (0, 0)) :: L) := by
  have hb := h.2 _ (List.mem_cons_self ..)
  refine ⟨⟨h.1.os, h.1.tape, h.1.output, by simpa using h.1.size, fun k hk => (setRow_other w b k cs' (by omega)).trans (h.1.block k hk)⟩, fun c hc => ?_⟩
  rcases List.mem_cons.1 hc with rfl | hc
  · exact ⟨hb.1, setRow_heap w b cs cs' t (0, 0) hb.2⟩
  · exact ⟨(h.2 c (List.mem_cons_of_mem _ hc)).1, (setRow_other w b c.1 cs' (hne c hc)).trans (h.2 c (List.mem_cons_of_mem _ hc)).2⟩
theorem Sb.heap {b : Nat} {o : Obj} (h : Sb w0 w ((b, o) :: L)) : w.heap[b]? = some o := (h.2 _ (List.mem_cons_self ..)).2
theorem Sb.lt {b : Nat} {o : Obj} (h : Sb w0 w ((b, o) :: L)) : b < w.heap.size := (Array.getElem?_eq_some_iff.1 h.heap).1
theorem Sb.tl {c : Nat × Obj} (h : Sb w0 w (c :: L)) : Sb w0 w L := h.sub fun x hx => List.mem_cons_of_mem _ hx
theorem Sb.cell {b : Nat} {cs : Array Value} {t : TypeId} {fr : Nat × Nat} (h : Sb w0 w ((b, .cells cs t fr) :: L)) (j : Nat) : w.cell? ⟨b, j, none⟩ = cs[j]? := cell_of_row w b j cs t fr h.heap
theorem Sb.free {b : Nat} {cs : Array Value} {t : TypeId} (h : Sb w0 w ((b, .cells cs t (0, 0)) :: L)) (j : Nat) : w.frozen? ⟨b, j, none⟩ = false := frozen_of_row w b j cs t h.heap
/-- A row's cells with others put in from o on. -/
def putA : Array Value → Nat → List Value → Array Value
  | cs, _, [] => cs
  | cs, o, v :: r => putA (cs.setIfInBounds o v) (o + 1) r
theorem putA_get : ∀ (vs : List Value) (cs : Array Value) (o i : Nat), o + vs.length ≤ cs.size → (putA cs o vs)[i]? = if o ≤ i ∧ i < o + vs.length then vs[i - o]? else cs[i]?
  | [], cs, o, i, _ => by
    rw [putA, if_neg (by rintro ⟨h1, h2⟩; simp at h2; omega)]
  | v :: r, cs, o, i, h => by
    simp only [List.length_cons] at h
    rw [putA, putA_get r _ (o + 1) i (by simp; omega), Array.getElem?_setIfInBounds]
    simp only [List.length_cons]
    by_cases h1 : o = i
    · subst h1
      rw [if_neg (by omega), if_pos rfl, if_pos (by omega), if_pos (by omega)]
      simp
    · by_cases h2 : o + 1 ≤ i ∧ i < o + 1 + r.length
      · rw [if_pos h2, if_pos (by omega), show i - o = (i - (o + 1)) + 1 by omega]; simp
      · rw [if_neg h2, if_neg h1, if_neg (by omega)]
theorem putA_size : ∀ (vs : List Value) (cs : Array Value) (o : Nat), (putA cs o vs).size = cs.size
  | [], _, _ => rfl
  | v :: r, cs, o => by rw [putA, putA_size]; simp
theorem setCells_heap {b : Nat} {t : TypeId} : ∀ (vs : List Value) (o : Nat) (w : World) (cs : Array Value), w.heap[b]? = some (.cells cs t (0, 0)) → (w.setCells b o vs).heap[b]? = some (.cells (putA cs o vs) t (0, 0))
  | [], _, _, _, h => h
  | v :: r, o, w, cs, h => setCells_heap r (o + 1) _ _ (heap_setCell_same w b o cs t v h)
theorem setCells_other {b z : Nat} (hz : z ≠ b) : ∀ (vs : List Value) (o : Nat) (w : World), (w.setCells b o vs).heap[z]? = w.heap[z]?
  | [], _, _ => rfl
  | v :: r, o, w => by
    rw [World.setCells, setCells_other hz r, heap_setCell_other _ _ _ _ (by simpa using hz)]
theorem setCells_below {B b : Nat} {w0 : World} (hb : B ≤ b) : ∀ (vs : List Value) (o : Nat) (w : World), Below B w0 w → Below B w0 (w.setCells b o vs)
  | [], _, _, h => h
  | v :: r, o, w, h => setCells_below hb r (o + 1) _ (h.setCell (p := ⟨b, o, none⟩) hb v)
theorem setCells_size {b : Nat} : ∀ (vs : List Value) (o : Nat) (w : World), (w.setCells b o vs).heap.size = w.heap.size
  | [], _, _ => rfl
  | v :: r, o, w => by rw [World.setCells, setCells_size r]; simp
/-- A block with its cells, or a row of one's own. -/
inductive It where
  | box (b : Nat) (o : Obj)
  | row (v : Value) (e : TypeId) (size n : Nat) (xs : List Value)
def It.blk : It → Option Nat
  | .box b _ => some b
  | .row v _ _ _ _ => v.ownBlock
def It.lies (B : Nat) (w : World) : It → Prop
  | .box b o => B ≤ b ∧ w.heap[b]? = some o
  | .row v e size n xs => w.ownsRow B e size v n xs
def Apart (x y : It) : Prop := ∀ b, x.blk = some b → y.blk ≠ some b
theorem Apart.symm {x y : It} (h : Apart x y) : Apart y x := fun b hy hx => h b hx hy
theorem It.lt {B : Nat} {w : World} {x : It} (h : x.lies B w) {b : Nat} (hb : x.blk = some b) : B ≤ b ∧ b < w.heap.size := by
  cases x with
  | box b' o =>
    have e : b' = b := by simpa [It.blk] using hb
    subst e
    exact ⟨h.1, (Array.getElem?_eq_some_iff.1 h.2).1⟩
  | row v e size n xs => exact World.ownsRow.lt h b hb
theorem It.kept {B : Nat} {w w' : World} {row : Option Nat} {x : It} (hg : w.grownBy w' row) (h : x.lies B w) (hn : ∀ b, x.blk = some b → some b ≠ row) : x.lies B w' := by
  cases x with
  | box b o => exact ⟨h.1, (hg.block b (Array.getElem?_eq_some_iff.1 h.2).1 (hn b rfl)).trans h.2⟩
  | row v e size n xs =>
    refine World.ownsRow.kept h hg ?_
    cases hv : v.ownBlock with
    | none => exact .inl rfl
    | some b => exact .inr (hn b hv)
structure Sep (B : Nat) (w0 w : World) (L : List It) : Prop where
  bel : Below B w0 w
  sz : B ≤ w.heap.size
  li : ∀ x ∈ L, x.lies B w
  ap : L.Pairwise Apart
theorem Sep.start (w : World) : Sep w.heap.size w w [] := ⟨Below.refl _ _, Nat.le_refl _, by simp, .nil⟩
theorem Sep.drew {B : Nat} {w0 w : World} {L : List It} (h : Sep B w0 w L) : Sep B w0 w.drew L :=
  ⟨below_drewN h.bel 1, h.sz, fun x hx => It.kept (row := none) ⟨rfl, rfl, rfl, Nat.le_refl _, fun _ _ _ => rfl⟩ (h.li x hx) (fun _ _ e => by cases e), h.ap⟩
theorem Sep.alloc {B : Nat} {w0 w : World} {L : List It} (h : Sep B w0 w L) (o : Obj) : Sep B w0 (w.alloc o) (.box w.heap.size o :: L) := by
  refine ⟨h.bel.alloc h.sz _, by simp; have := h.sz; omega, fun x hx => ?_, List.pairwise_cons.2 ⟨fun y hy b hb hyb => ?_, h.ap⟩⟩
  · rcases List.mem_cons.1 hx with rfl | hx
    · exact ⟨h.sz, heap_alloc_last w o⟩
    · exact It.kept (World.grownBy_alloc w o none) (h.li x hx) (fun _ _ e => by cases e)
  · have e : w.heap.size = b := by simpa [It.blk] using hb
    have := (It.lt (h.li y hy) hyb).2
    omega
theorem Sep.rep {B : Nat} {w0 w w' : World} {L : List It} {x x' : It} (h : Sep B w0 w (x :: L)) (hg : w.grownBy w' x.blk) (hl : x'.lies B w') (hat : ∀ b, x'.blk = some b → x.blk = some b ∨ w.heap.size ≤ b) : Sep B w0 w' (x' :: L) := by
  have hx := h.li x (List.mem_cons_self ..)
  have hap := List.pairwise_cons.1 h.ap
  refine ⟨below_grown h.bel hg (fun g e => (It.lt hx e).1) h.sz, Nat.le_trans h.sz hg.size, fun y hy => ?_, List.pairwise_cons.2 ⟨fun y hy b hb hyb => ?_, hap.2⟩⟩
  · rcases List.mem_cons.1 hy with rfl | hy
    · exact hl
    · exact It.kept hg (h.li y (List.mem_cons_of_mem _ hy)) (fun b hb e => hap.1 y hy b e.symm hb)
  · rcases hat b hb with e | e
    · exact hap.1 y hy b e hyb
    · have := (It.lt (h.li y (List.mem_cons_of_mem _ hy)) hyb).2
      omega
theorem Sep.same {B : Nat} {w0 w : World} {L : List It} {x x' : It} (h : Sep B w0 w (x :: L)) (hl : x'.lies B w) (hat : x'.blk = x.blk) : Sep B w0 w (x' :: L) :=
  h.rep ⟨rfl, rfl, rfl, Nat.le_refl _, fun _ _ _ => rfl⟩ hl (fun b hb => .inl (hat ▸ hb))
theorem Sep.up {B : Nat} {w0 w w' : World} {L : List It} (h : Sep B w0 w L) (hb : Below w.heap.size w w') : Sep B w0 w' L :=
  ⟨h.bel.trans (hb.mono h.sz), Nat.le_trans h.sz hb.size, fun x hx => It.kept (row := none) ⟨hb.os, hb.tape, hb.output, hb.size, fun k hk _ => hb.block k hk⟩ (h.li x hx) (fun _ _ e => by cases e), h.ap⟩
theorem Sep.front {B : Nat} {w0 w : World} {L : List It} {x : It} (h : Sep B w0 w L) (hx : x ∈ L) : ∃ M, Sep B w0 w (x :: M) ∧ ∀ y ∈ L, y ≠ x → y ∈ M := by
  obtain ⟨s, t, rfl⟩ := List.append_of_mem hx
  refine ⟨s ++ t, ⟨h.bel, h.sz, fun y hy => h.li y ?_, ?_⟩, fun y hy hn => ?_⟩
  · simp only [List.mem_cons, List.mem_append] at hy ⊢
    rcases hy with h | h | h
    · exact .inr (.inl h)
    · exact .inl h
    · exact .inr (.inr h)
  · exact (List.perm_middle.pairwise_iff (fun h => h.symm)).1 h.ap
  · simp only [List.mem_cons, List.mem_append] at hy ⊢
    rcases hy with h | h | h
    · exact .inl h
    · exact absurd h hn
    · exact .inr h
theorem Sep.tl {B : Nat} {w0 w : World} {L : List It} {x : It} (h : Sep B w0 w (x :: L)) : Sep B w0 w L := ⟨h.bel, h.sz, fun y hy => h.li y (List.mem_cons_of_mem _ hy), (List.pairwise_cons.1 h.ap).2⟩
theorem Sep.empty {B b e size : Nat} {w0 w : World} {L : List It} (h : Sep B w0 w (.box b (.cells #[] e (0, 0)) :: L)) : Sep B w0 w (.row (.slice (some ⟨b, 0, none⟩) 0 0) e size 0 [] :: L) := by
  have hx := h.li _ (List.mem_cons_self ..)
  exact h.same ⟨by simp, .inr ⟨b, 0, #[], rfl, hx.1, hx.2, Nat.le_refl _, by simp [maxLen], by simp, by simp⟩⟩ rfl
/-- Behind an append. -/
theorem Sep.app {B e size n m : Nat} {v v' : Value} {xs ys : List Value} {w0 w w' : World} {L : List It} (h : Sep B w0 w (.row v e size n xs :: L)) (hown : w'.ownsRow B e size v' m ys) (hg : w.grownBy w' v.ownBlock) (hat : v'.ownBlock = v.ownBlock ∨ v'.ownBlock = some w.heap.size) : Sep B w0 w' (.row v' e size m ys :: L) :=
  h.rep (x := .row v e size n xs) (x' := .row v' e size m ys) hg hown (fun b hb => hat.elim (fun e => .inl (e.symm.trans hb)) fun e => .inr (by have h2 : v'.ownBlock = some b := hb; rw [e] at h2; cases h2; exact Nat.le_refl _))
/-- Behind a store. -/
theorem Sep.put {B b : Nat} {o o' : Obj} {w0 w w' : World} {L : List It} (h : Sep B w0 w (.box b o :: L)) (hg : w.grownBy w' (some b)) (hb : w'.heap[b]? = some o') : Sep B w0 w' (.box b o' :: L) :=
  h.rep (x := .box b o) (x' := .box b o') hg ⟨(h.li _ (List.mem_cons_self ..)).1, hb⟩ (fun b' hb' => .inl hb')
end Go.Proofs.Ytemkppjdfjoipaa.I1
end
