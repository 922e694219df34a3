/- Texts of package regs, one behind the other. -/
import Derived.Test.YtemkppjdfjoipaaProg
import Derived.Test.YtemkppjdfjoipaaW15
import Derived.WalkKit
import Derived.BigFrame
import Derived.WalkLawsBesides
import Derived.WalkSpells
import Derived.Outline
import Derived.Lib.Walk
import Derived.Lib.Hide
import Derived.Lib.Slices
import Derived.Lib.Strings
import Derived.RegionTactic
import Derived.LoopTactic
import Derived.Below
import Derived.IntWalk
import Derived.Deep.QuietTactic
import Derived.BigQuiet
import Derived.Deep.MidRow
import Derived.Maps.AppendAt
import Derived.Laws.Rows
import Derived.Laws.Tables
import Derived.Deep.WholeRow
import Derived.Deep.Cut
import Derived.Deep.CutRange
import Derived.Lib.SliceRun
import Derived.Laws.MakeOwn
import Derived.Deep.RegionLaw
import Derived.Deep.RegionLawGrows
import Derived.Deep.RegionHeld3
import Derived.RegionCalls
import Derived.Deep.RegionWith
import Derived.Deep.Light
import Derived.Laws.CopyOwn
import Derived.Laws.ResultCell
import Derived.Stop.BytesEq
import Derived.Test.YtemkppjdfjoipaaW12
section
/- Packages dfa, mini, munch. -/
namespace Go.Proofs.Ytemkppjdfjoipaa
set_option linter.unusedSimpArgs false
set_option linter.unusedVariables false
set_option maxRecDepth 100000
open Go.RowKit
/- TwinInts, SameInts, LeftInts. -/
theorem vbool6 {a b : Bool} (h : a = b) : Ending.returned (.bool a) = .returned (.bool b) := by rw [h]
theorem run_append_zero {P : Program} (w : World) (t ty e : TypeId) (i : TypeInfo) (ht : P.underlying t = some (.slice e)) (hi : P.info? e = some i) (a : Addr) (n c : Nat) (q : Option Addr) (c' : Nat) (hn : n ≤ c) :
    Sem.run P (Builtin.append_ #[t, t] ty #[.slice (some a) n c, .slice q 0 c']) w = .ok (.slice (some a) n c) w := by
  cases q <;> simp [Builtin.append_, underlying, ht, hi, Go.sizeOf, Go.typeInfo, Builtin.firstCells, storeCells, hn, go_sem]
theorem wpList_append_zero {P : Program} (w : World) {ops : Array Oper} {rest : List Oper} {o : Oper} {a : Act} {Q : Exit → Act → World → Prop} (hgd : o.guard = none) (s x : Operand) (t : TypeId)
    (ho : o.op = .call { callee := .builtin .append, args := #[s, x], argTypes := #[t, t] })
    (e : TypeId) (i : TypeInfo) (ht : P.underlying t = some (.slice e)) (hi : P.info? e = some i) (ad : Addr) (n c : Nat) (hs : a.eval s = .slice (some ad) n c) (q : Option Addr) (c' : Nat) (hx : a.eval x = .slice q 0 c') (hn : n ≤ c)
    (h : wpList P ops Q rest (a.put o.dst (.slice (some ad) n c)) w) : wpList P ops Q (o :: rest) a w := by
  refine wpList_plain hgd fun K hK => ?_
  have hr := run_append_zero (P := P) w t o.type e i ht hi ad n c q c' hn
  unfold Oper.wp execOp
  simp only [ho, resolve, invoke, builtin, Sem.run_bind, Sem.run_pure, Result.andThen_ok, List.map_toArray, List.map_cons, List.map_nil, hs, hx, hr]
  exact hK _ _ h
theorem info3b : (Try.prog.info? 3).map (fun i => (i.zero, i.size, i.bytes)) = some (some (.int .i64 0), 1, 8) := by kernel_rfl
def zi (l : List Int) : List Value := l.map fun x => .int .i64 x
theorem zi_one (l : List Int) : ∀ v ∈ zi l, v.oneCell' = true := by
  intro v hv
  obtain ⟨x, _, rfl⟩ := List.mem_map.1 hv
  rfl
theorem row_own {w : World} {B : Nat} {e : TypeId} {size : Nat} {v : Value} {n : Nat} {xs : List Value} (h : w.ownsRow B e size v n xs) (hn : 0 < n) :
    ∃ g cap, v = .slice (some ⟨g, 0, none⟩) n cap ∧ n ≤ cap := by
  rcases h.2 with ⟨_, h0⟩ | ⟨g, cap, cur, hv, _, _, hc, _⟩
  · omega
  · exact ⟨g, cap, hv, hc⟩
theorem at_worldQ {Q : Exit → Act → World → Prop} {e : Exit} {a : Act} {w : World} (R : World → Prop) (hR : R w) (h : ∀ y, R y → Q e a y) : Q e a w := h w hR
theorem at_world {P : Program} {c : Code} {Q : Exit → Act → World → Prop} {a : Act} {w : World} (R : World → Prop) (hR : R w) (h : ∀ y, R y → c.wp P Q a y) : c.wp P Q a w := h w hR
theorem below_grown {B : Nat} {w0 w w' : World} {row : Option Nat} (h : Below B w0 w) (hg : w.grownBy w' row) (hr : ∀ g, row = some g → B ≤ g) (hB : B ≤ w.heap.size) : Below B w0 w' :=
  ⟨hg.os.trans h.os, hg.tape.trans h.tape, hg.output.trans h.output, Nat.le_trans h.size hg.size, fun k hk => (hg.block k (by omega) (fun e => by have := hr k e.symm; omega)).trans (h.block k hk)⟩
theorem below_drewN {B : Nat} {w0 w : World} (h : Below B w0 w) (n : Nat) : Below B w0 (w.drewN n) := ⟨h.os, h.tape, h.output, h.size, h.block⟩
set_option maxHeartbeats 8000000 in
theorem same_any {D E : Nat → Prop} {w : World} {a b : List Int} {pa pb : Option Addr} {ca cb : Nat} (hla : a.length ≤ 9223372036854775806) (hD : ∀ b, D b → b < w.heap.size) (hE : ∀ b, E b → b < w.heap.size) (ha : IV D w a (.slice pa a.length ca)) (hb : IV E w b (.slice pb b.length cb)) :
    Calls Try.prog 35 #[.slice pa a.length ca, .slice pb b.length cb] w fun e w' => e = .returned (.bool (decide (a = b))) ∧ Below w.heap.size w w' := by
  have HA := Lib.hid ha
  have HB := Lib.hid hb
  have HD := Lib.hid hD
  have HE := Lib.hid hE
  have S0 := Lib.hid (Below.refl w.heap.size w)
  clear ha hb hD hE
  by_cases hl : a.length = b.length
  · have HLN := Lib.hid hl
    rw [← hl]
    have hne : (((a.length : Nat) : Int) != ((a.length : Nat) : Int)) = false := by simp
    clear hl
    go_enter Try.func35, Try.ntmps35
    go_wp2_with fail
    go_loopw [5] (fun i wr => ∃ j : Nat, i = .int .i64 (j : Nat) ∧ j ≤ a.length ∧ Hid (a.take j = b.take j) ∧ Hid (Below w.heap.size w wr)) (fun i _ => a.length - (intOf i).toNat)
    case atStart => exact ⟨0, rfl, by omega, Lib.hid (by simp), S0⟩
    case round =>
      clear S0
      obtain ⟨j, rfl, hj, HT, HS⟩ := hrel
      obtain ⟨wo, rfl⟩ : ∃ wo : World, wo = wr := ⟨_, rfl⟩
      by_cases hlt : j < a.length
      · have hltb : j < b.length := by have := HLN.out; omega
        obtain ⟨p', c', he, hh⟩ := HA.out
        injection he with e1 e2 e3
        subst e1 e3
        clear e2
        obtain ⟨ba, oa, rfl, hba, hca⟩ := hh (by intro e; rw [e] at hlt; simp at hlt)
        obtain ⟨p'', c'', he, hh2⟩ := HB.out
        injection he with e4 e5 e6
        subst e4 e6
        obtain ⟨bb, ob, rfl, hbb, hcb⟩ := hh2 (by intro e; rw [e] at hltb; simp at hltb)
        have ca1 : wo.cell? ⟨ba, oa + j, none⟩ = some (.int .i64 a[j]) := (cell_same (HS.out.block ba (HD.out ba hba)) _).trans (hca j hlt)
        have cb1 : wo.cell? ⟨bb, ob + j, none⟩ = some (.int .i64 b[j]) := (cell_same (HS.out.block bb (HE.out bb hbb)) _).trans (hcb j hltb)
        have ht1 : a.take (j + 1) = a.take j ++ [a[j]] := by rw [List.take_add_one, List.getElem?_eq_getElem hlt]; rfl
        have ht2 : b.take (j + 1) = b.take j ++ [b[j]] := by rw [List.take_add_one, List.getElem?_eq_getElem hltb]; rfl
        have hneq : a[j] ≠ b[j] → a ≠ b := fun h e => h (by subst e; rfl)
        generalize a[j] = x at *
        generalize b[j] = y at *
        have HT1 := Lib.hid ht1
        have HT2 := Lib.hid ht2
        have HNE := Lib.hid hneq
        have hltI : (j : Int) < (a.length : Int) := by omega
        have hjI : ¬ (j : Int) < 0 := by omega
        clear hh hh2 hca hcb ht1 ht2 hneq e5 hltb
        by_cases hxy : x = y
        · have hxI : (x != y) = false := by rw [hxy]; simp
          have HT3 : Hid (a.take (j + 1) = b.take (j + 1)) := Lib.hid (by rw [HT1.out, HT2.out, HT.out, hxy])
          clear HT HNE hxy
          go_wp2_with fail
          go_quiet (fail)
          refine at_worldQ (fun z => Below w.heap.size w z) (below_drewN HS.out _) fun z hz => ?_
          have HS2 := Lib.hid hz
          clear hz HS ca1 cb1
          go_wp2_with fail
          go_roundw
          case rel => exact ⟨j + 1, by go_num, by omega, HT3, HS2⟩
          case measure => simp [intOf]; omega
        · have hxI : (x != y) = true := by simpa using hxy
          have HRES : Hid (decide (a = b) = false) := Lib.hid (by simpa using HNE.out hxy)
          clear HT HNE hxy
          go_wp2_with fail
          go_quiet (fail)
          refine at_worldQ (fun z => Below w.heap.size w z) (below_drewN HS.out _) fun z hz => ?_
          have HS2 := Lib.hid hz
          clear hz HS ca1 cb1
          go_wp2_with fail
          go_ret
          exact ⟨vbool6 HRES.out.symm, HS2.out⟩
      · obtain rfl : j = a.length := by omega
        have hab : a = b := by
          have := HT.out
          rwa [List.take_length, HLN.out, List.take_length] at this
        have HRES : Hid (decide (a = b) = true) := Lib.hid (by simpa using hab)
        have hltI : ¬ (a.length : Int) < (a.length : Int) := by omega
        clear hab
        go_wp2_with fail
        go_ret
        exact ⟨vbool6 HRES.out.symm, HS.out⟩
  · have hne : (((a.length : Nat) : Int) != ((b.length : Nat) : Int)) = true := by simp; omega
    have hr : decide (a = b) = false := by simp; intro e; exact hl (by rw [e])
    rw [hr]
    go_enter Try.func35, Try.ntmps35
    go_wp2_with fail
    go_ret
    exact ⟨rfl, S0.out⟩
end Go.Proofs.Ytemkppjdfjoipaa
end
section
/- Packages dfa, mini, munch. -/
namespace Go.Proofs.Ytemkppjdfjoipaa
set_option linter.unusedSimpArgs false
set_option linter.unusedVariables false
set_option maxRecDepth 100000
open Go.RowKit
/- What lies in the blocks that a call has made. -/
theorem below_row {B b : Nat} {w w' : World} (h : Below B w w') (hb : B ≤ b) (cs : Array Value) : Below B w (w'.setRow b cs) :=
  ⟨h.os, h.tape, h.output, by simpa using h.size, fun k hk => (setRow_other w' b k cs (by omega)).trans (h.block k hk)⟩
def Sb (w0 w : World) (L : List (Nat × Obj)) : Prop := Below w0.heap.size w0 w ∧ ∀ c ∈ L, w0.heap.size ≤ c.1 ∧ w.heap[c.1]? = some c.2
variable {w0 w w' : World} {L M : List (Nat × Obj)}
theorem Sb.start (w : World) : Sb w w [] := ⟨Below.refl _ _, by simp⟩
theorem Sb.up (h : Sb w0 w L) (hb : Below w.heap.size w w') : Sb w0 w' L :=
  ⟨h.1.trans (hb.mono h.1.size), fun c hc => ⟨(h.2 c hc).1, (hb.block _ (Array.getElem?_eq_some_iff.1 (h.2 c hc).2).1).trans (h.2 c hc).2⟩⟩
theorem Sb.drewN (h : Sb w0 w L) (n : Nat) : Sb w0 (w.drewN n) L := ⟨below_drewN h.1 n, h.2⟩
theorem Sb.drew (h : Sb w0 w L) : Sb w0 w.drew L := h.drewN 1
theorem Sb.alloc (h : Sb w0 w L) (o : Obj) : Sb w0 (w.alloc o) ((w.heap.size, o) :: L) := by
  have h1 : Sb w0 (w.alloc o) L := h.up ((Below.refl _ _).alloc (Nat.le_refl _) _)
  refine ⟨h1.1, fun c hc => ?_⟩
  rcases List.mem_cons.1 hc with rfl | hc
  · exact ⟨h.1.size, heap_alloc_last w o⟩
  · exact h1.2 c hc
theorem Sb.sub (h : Sb w0 w L) (hs : ∀ c ∈ M, c ∈ L) : Sb w0 w M := ⟨h.1, fun c hc => h.2 c (hs c hc)⟩
theorem Sb.set {b i : Nat} {cs : Array Value} {t : TypeId} (h : Sb w0 w ((b, .cells cs t (0, 0)) :: L)) (v : Value) (hne : ∀ c ∈ L, c.1 ≠ b) :
    Sb w0 (w.setCell ⟨b, i, none⟩ v) ((b, .cells (cs.setIfInBounds i v) t (0, 0)) :: L) := by
  have hb := h.2 _ (List.mem_cons_self ..)
  refine ⟨h.1.setCell (p := ⟨b, i, none⟩) hb.1 _, fun c hc => ?_⟩
  rcases List.mem_cons.1 hc with rfl | hc
  · exact ⟨hb.1, heap_setCell_same w b i cs t v hb.2⟩
  · exact ⟨(h.2 c (List.mem_cons_of_mem _ hc)).1, (heap_setCell_other w _ c.1 v (hne c hc)).trans (h.2 c (List.mem_cons_of_mem _ hc)).2⟩
theorem Sb.setRow {b : Nat} {cs cs' : Array Value} {t : TypeId} (h : Sb w0 w ((b, .cells cs t (0, 0)) :: L)) (hne : ∀ c ∈ L, c.1 ≠ b) :
    Sb w0 (w.setRow b cs') ((b, .cells cs' t (0, 0)) :: L) := by
  have hb := h.2 _ (List.mem_cons_self ..)
  refine ⟨⟨h.1.os, h.1.tape, h.1.output, by simpa using h.1.size, fun k hk => (setRow_other w b k cs' (by omega)).trans (h.1.block k hk)⟩, fun c hc => ?_⟩
  rcases List.mem_cons.1 hc with rfl | hc
  · exact ⟨hb.1, setRow_heap w b cs cs' t (0, 0) hb.2⟩
  · exact ⟨(h.2 c (List.mem_cons_of_mem _ hc)).1, (setRow_other w b c.1 cs' (hne c hc)).trans (h.2 c (List.mem_cons_of_mem _ hc)).2⟩
theorem Sb.heap {b : Nat} {o : Obj} (h : Sb w0 w ((b, o) :: L)) : w.heap[b]? = some o := (h.2 _ (List.mem_cons_self ..)).2
theorem Sb.lt {b : Nat} {o : Obj} (h : Sb w0 w ((b, o) :: L)) : b < w.heap.size := (Array.getElem?_eq_some_iff.1 h.heap).1
theorem Sb.tl {c : Nat × Obj} (h : Sb w0 w (c :: L)) : Sb w0 w L := h.sub fun x hx => List.mem_cons_of_mem _ hx
theorem Sb.cell {b : Nat} {cs : Array Value} {t : TypeId} {fr : Nat × Nat} (h : Sb w0 w ((b, .cells cs t fr) :: L)) (j : Nat) : w.cell? ⟨b, j, none⟩ = cs[j]? := cell_of_row w b j cs t fr h.heap
theorem Sb.free {b : Nat} {cs : Array Value} {t : TypeId} (h : Sb w0 w ((b, .cells cs t (0, 0)) :: L)) (j : Nat) : w.frozen? ⟨b, j, none⟩ = false := frozen_of_row w b j cs t h.heap
/-- A row's cells with others put in from o on. -/
def putA : Array Value → Nat → List Value → Array Value
  | cs, _, [] => cs
  | cs, o, v :: r => putA (cs.setIfInBounds o v) (o + 1) r
theorem putA_get : ∀ (vs : List Value) (cs : Array Value) (o i : Nat), o + vs.length ≤ cs.size → (putA cs o vs)[i]? = if o ≤ i ∧ i < o + vs.length then vs[i - o]? else cs[i]?
  | [], cs, o, i, _ => by
    rw [putA, if_neg (by rintro ⟨h1, h2⟩; simp at h2; omega)]
  | v :: r, cs, o, i, h => by
    simp only [List.length_cons] at h
    rw [putA, putA_get r _ (o + 1) i (by simp; omega), Array.getElem?_setIfInBounds]
    simp only [List.length_cons]
    by_cases h1 : o = i
    · subst h1
      rw [if_neg (by omega), if_pos rfl, if_pos (by omega), if_pos (by omega)]
      simp
    · by_cases h2 : o + 1 ≤ i ∧ i < o + 1 + r.length
      · rw [if_pos h2, if_pos (by omega), show i - o = (i - (o + 1)) + 1 by omega]; simp
      · rw [if_neg h2, if_neg h1, if_neg (by omega)]
theorem putA_size : ∀ (vs : List Value) (cs : Array Value) (o : Nat), (putA cs o vs).size = cs.size
  | [], _, _ => rfl
  | v :: r, cs, o => by rw [putA, putA_size]; simp
theorem setCells_other {b z : Nat} (hz : z ≠ b) : ∀ (vs : List Value) (o : Nat) (w : World), (w.setCells b o vs).heap[z]? = w.heap[z]?
  | [], _, _ => rfl
  | v :: r, o, w => by
    rw [World.setCells, setCells_other hz r, heap_setCell_other _ _ _ _ (by simpa using hz)]
end Go.Proofs.Ytemkppjdfjoipaa
end
section
/- Packages dfa, mini, munch. -/
namespace Go.Proofs.Ytemkppjdfjoipaa
set_option linter.unusedSimpArgs false
set_option linter.unusedVariables false
set_option maxRecDepth 100000
open Go.RowKit
/- Twins of rows in memory. -/
/-- A list, what stands behind it, its block, its room. -/
abbrev Ni := List Int × List Int × Nat × Nat
def nV (z : Ni) : Value := .slice (some ⟨z.2.2.1, 0, none⟩) z.1.length z.2.2.2
def TR (B : Nat) (w : World) (z : Ni) : Prop := w.ownsRow B 3 1 (.slice (some ⟨z.2.2.1, 0, none⟩) (z.1 ++ z.2.1).length z.2.2.2) (z.1 ++ z.2.1).length (zi (z.1 ++ z.2.1)) 
theorem row_base {w : World} {B C : Nat} {e : TypeId} {size : Nat} {v : Value} {n : Nat} {xs : List Value} (h : w.ownsRow B e size v n xs) (hc : C ≤ B) : w.ownsRow C e size v n xs := by
  refine ⟨h.1, ?_⟩
  rcases h.2 with h1 | ⟨g, cap, cur, hv, hb, hr⟩
  · exact .inl h1
  · exact .inr ⟨g, cap, cur, hv, Nat.le_trans hc hb, hr⟩
theorem TR.kept {B : Nat} {w w' : World} {z : Ni} {row : Option Nat} (h : TR B w z) (hg : w.grownBy w' row) (hn : some z.2.2.1 ≠ row) : TR B w' z :=
  World.ownsRow.kept h hg (.inr hn)
theorem TR.lt {B : Nat} {w : World} {z : Ni} (h : TR B w z) : B ≤ z.2.2.1 ∧ z.2.2.1 < w.heap.size := World.ownsRow.lt h _ rfl
/-- Rows of one's own in a row of one's own. -/
def TN (B : Nat) (zs : List Ni) (sl : Value) (w : World) : Prop := (∀ z ∈ zs, TR B w z ∧ some z.2.2.1 ≠ sl.ownBlock) ∧ w.ownsRow B 25 1 sl zs.length (zs.map nV)
theorem TN.nil (B : Nat) (w : World) : TN B [] (.slice none 0 0) w := ⟨fun z hz => absurd hz (by simp), ⟨by simp, .inl ⟨rfl, rfl⟩⟩⟩
theorem TN.up {B : Nat} {zs : List Ni} {sl : Value} {w w' : World} (h : TN B zs sl w) (hb : Below w.heap.size w w') : TN B zs sl w' := by
  have hg : w.grownBy w' none := ⟨hb.os, hb.tape, hb.output, hb.size, fun k hk _ => hb.block k hk⟩
  refine ⟨fun z hz => ⟨(h.1 z hz).1.kept hg (by simp), (h.1 z hz).2⟩, World.ownsRow.kept h.2 hg ?_⟩
  by_cases hp : sl.ownBlock = none
  · exact .inl hp
  · exact .inr hp
theorem TN.base {B C : Nat} {zs : List Ni} {sl : Value} {w : World} (h : TN B zs sl w) (hc : C ≤ B) : TN C zs sl w :=
  ⟨fun z hz => ⟨row_base (h.1 z hz).1 hc, (h.1 z hz).2⟩, row_base h.2 hc⟩
/-- One more. -/
theorem TN.app {B : Nat} {zs : List Ni} {sl sl' : Value} {w w2 : World} {z : Ni} (h : TN B zs sl w) (hz : TR B w z) (hne : some z.2.2.1 ≠ sl.ownBlock)
    (hown : w2.ownsRow B 25 1 sl' (zs.length + 1) (zs.map nV ++ [nV z])) (hg : w.grownBy w2 sl.ownBlock) (hat : sl'.ownBlock = sl.ownBlock ∨ sl'.ownBlock = some w.heap.size) : TN B (zs ++ [z]) sl' w2 := by
  refine ⟨fun y hy => ?_, ?_⟩
  · have key : ∀ y, TR B w y → some y.2.2.1 ≠ sl.ownBlock → TR B w2 y ∧ some y.2.2.1 ≠ sl'.ownBlock := fun y h1 h2 => by
      refine ⟨h1.kept hg h2, fun e => ?_⟩
      rcases hat with ha | ha
      · rw [ha] at e; exact h2 e
      · rw [ha] at e
        have := h1.lt.2
        have e2 := Option.some.inj e
        omega
    rcases List.mem_append.1 hy with hy | hy
    · exact key y (h.1 y hy).1 (h.1 y hy).2
    · simp at hy
      subst hy
      exact key y hz hne
  · rw [List.map_append, List.length_append]
    exact hown
theorem row_form {y : World} {B : Nat} {e : TypeId} {sl : Value} {n : Nat} {xs : List Value} {k : Nat} (h : y.ownsRow B e k sl n xs) : ∃ p c, sl = .slice p n c := by
  rcases h.2 with ⟨rfl, rfl⟩ | ⟨g, cap, cur, rfl, _⟩
  · exact ⟨_, _, rfl⟩
  · exact ⟨_, _, rfl⟩
theorem TN.form {B : Nat} {zs : List Ni} {sl : Value} {w : World} (h : TN B zs sl w) : ∃ p c, sl = .slice p zs.length c := row_form h.2
/-- The marks: their lists. -/
def mks (k : Nat) : List (List Int) := (List.range k).map fun i : Nat => [-7000 - (i : Int)]
theorem set_grown (w : World) (b i : Nat) (v : Value) : w.grownBy (w.setCell ⟨b, i, none⟩ v) (some b) := by
  have hb := (Below.refl 0 w).setCell (p := ⟨b, i, none⟩) (Nat.zero_le _) v
  exact ⟨hb.os, hb.tape, hb.output, hb.size, fun k _ hk => setCells_other (b := b) (by intro e; exact hk (by rw [e])) [v] i w⟩
theorem row_grown (w : World) (b : Nat) (cs : Array Value) : w.grownBy (w.setRow b cs) (some b) :=
  ⟨rfl, rfl, rfl, by simp, fun k _ hk => setRow_other w b k cs (by intro e; exact hk (by rw [e]))⟩
theorem Sb.grown {w0 w w' : World} {L : List (Nat × Obj)} {row : Option Nat} (h : Sb w0 w L) (hg : w.grownBy w' row) (hr : ∀ g, row = some g → w0.heap.size ≤ g ∧ ∀ c ∈ L, c.1 ≠ g) : Sb w0 w' L :=
  ⟨below_grown h.1 hg (fun g e => (hr g e).1) h.1.size, fun c hc => ⟨(h.2 c hc).1, (hg.block _ (Array.getElem?_eq_some_iff.1 (h.2 c hc).2).1 (fun e => (hr c.1 e.symm).2 c hc rfl)).trans (h.2 c hc).2⟩⟩
def zero26 : Array Value := #[.int .i64 0] ++ Array.replicate 256 (.int .u8 0) ++ #[.slice none 0 0, .slice none 0 0]
theorem info26r : (Try.prog.info? 61).map (fun i => (i.zero, i.size)) = some (some (.agg zero26), 259) := by kernel_rfl
theorem zero26_size : zero26.size = 259 := by kernel_rfl
end Go.Proofs.Ytemkppjdfjoipaa
end
section
/- Packages dfa, mini, munch. -/
namespace Go.Proofs.Ytemkppjdfjoipaa
set_option linter.unusedSimpArgs false
set_option linter.unusedVariables false
set_option maxRecDepth 100000
open Go.RowKit
/- goesOn. -/
theorem goes1 (x : Int) (w : World) : Calls Try.prog 100 #[.int .i64 x] w fun e w' => e = .returned (.bool (decide (0 ≤ x))) ∧ w' = w := by
  go_enter Try.func100, Try.ntmps100
  by_cases h : 0 ≤ x
  · have h' : ¬ x < 0 := by omega
    go_wp2_with fail
    go_ret
    exact ⟨by simp [h], rfl⟩
  · have h' : x < 0 := by omega
    go_wp2_with fail
    go_ret
    exact ⟨by simp; omega, rfl⟩
set_option maxHeartbeats 4000000 in
theorem index_fn {D : Nat → Prop} {w : World} {r : List Int} {p : Option Addr} {c : Nat} (hD : ∀ b, D b → b < w.heap.size) (h : IV D w r (.slice p r.length c)) (hl : r.length ≤ 9223372036854775806) :
    Calls Try.prog 91 #[.slice p r.length c, .func (.func 100) #[] #[]] w fun e w' => ∃ k : Int, e = .returned (.int .i64 k) ∧ decide (0 ≤ k) = onRow r ∧ Below w.heap.size w w' := by
  have HIV := Lib.hid h
  have HD := Lib.hid hD
  have S0 := Lib.hid (Below.refl w.heap.size w)
  clear h hD
  go_enter Try.func91, Try.ntmps91
  go_wp2_with fail
  go_loopw [8] (fun i wr => ∃ j : Nat, i = .int .i64 (j : Nat) ∧ j ≤ r.length ∧ Hid ((r.take j).any (fun x => decide (0 ≤ x)) = false) ∧ Hid (Below w.heap.size w wr)) (fun i _ => r.length - (intOf i).toNat)
  case atStart => exact ⟨0, rfl, by omega, Lib.hid (by simp), S0⟩
  case round =>
  clear S0
  obtain ⟨j, rfl, hj, HA, HS⟩ := hrel
  by_cases hlt : j < r.length
  · obtain ⟨p', c', he, hh⟩ := HIV.out
    injection he with e1 e2 e3
    subst e1 e3
    obtain ⟨b, o, rfl, hb, hc⟩ := hh (by intro e; subst e; simp at hlt)
    have cx : wr.cell? ⟨b, o + j, none⟩ = some (.int .i64 r[j]) := (cell_same (HS.out.block b (HD.out b hb)) _).trans (hc j hlt)
    have hta : r.take (j + 1) = r.take j ++ [r[j]] := by rw [List.take_add_one, List.getElem?_eq_getElem hlt]; rfl
    have HY : Hid (0 ≤ r[j] → onRow r = true) := Lib.hid fun h => List.any_eq_true.2 ⟨r[j], List.getElem_mem hlt, by simpa using h⟩
    have HA2 : Hid (¬ 0 ≤ r[j] → (r.take (j + 1)).any (fun x => decide (0 ≤ x)) = false) := Lib.hid fun h => by
      rw [hta, List.any_append, HA.out]; simp at h ⊢; exact h
    generalize r[j] = x at *
    have hltI : (j : Int) < (r.length : Int) := by omega
    have hjI : ¬ (j : Int) < 0 := by omega
    clear hh hc hta e2
    go_wp2_with fail
    refine (goes1 x wr).mono ?_
    rintro _ w1 ⟨rfl, rfl⟩
    by_cases hx : 0 ≤ x
    · have HR := Lib.hid (HY.out hx)
      rw [decide_eq_true hx]
      clear HY HA2 HA
      go_wp2_with fail
      go_ret
      exact ⟨j, rfl, by rw [HR.out]; simp, HS.out⟩
    · have HR := Lib.hid (HA2.out (by omega))
      rw [decide_eq_false hx]
      clear HY HA2 HA
      go_wp2_with fail
      go_roundw
      case rel => exact ⟨j + 1, by go_num, by omega, HR, HS⟩
      case measure => simp [intOf]; omega
  · obtain rfl : j = r.length := by omega
    have HR : Hid (onRow r = false) := Lib.hid (by have := HA.out; rwa [List.take_length] at this)
    have hltI : ¬ (r.length : Int) < (r.length : Int) := by omega
    clear HA
    go_wp2_with fail
    go_ret
    exact ⟨-1, rfl, by rw [HR.out]; simp, HS.out⟩
theorem goes_any {D : Nat → Prop} {w : World} {r : List Int} {p : Option Addr} {c : Nat} (hD : ∀ b, D b → b < w.heap.size) (h : IV D w r (.slice p r.length c)) (hl : r.length ≤ 9223372036854775806) :
    Calls Try.prog 99 #[.slice p r.length c] w fun e w' => e = .returned (.bool (onRow r)) ∧ Below w.heap.size w w' := by
  have HC := Lib.hid (index_fn hD h hl)
  have HC2 : Hid (Calls Try.prog 77 #[.slice p r.length c, .func (.func 100) #[] #[]] w fun e w' => e = .returned (.bool (onRow r)) ∧ Below w.heap.size w w') := Lib.hid (by
    clear h hD
    generalize onRow r = o at *
    generalize r.length = n at *
    go_enter Try.func77, Try.ntmps77
    go_wp2_with fail
    refine HC.out.mono ?_
    rintro _ w1 ⟨k, rfl, hk, hb⟩
    have HB := Lib.hid hb
    have HK := Lib.hid hk
    clear hk hb
    by_cases hk0 : 0 ≤ k
    · have hk' : ¬ k < 0 := by omega
      go_wp2_with fail
      go_ret
      exact ⟨by rw [← HK.out]; simp [hk0], HB.out⟩
    · have hk' : k < 0 := by omega
      go_wp2_with fail
      go_ret
      exact ⟨by rw [← HK.out, decide_eq_false (by omega)]; rfl, HB.out⟩)
  clear HC h hD
  generalize onRow r = o at *
  generalize r.length = n at *
  go_enter Try.func99, Try.ntmps99
  go_wp2_with fail
  refine HC2.out.mono ?_
  rintro _ w1 ⟨rfl, hb⟩
  have HB := Lib.hid hb
  clear hb
  go_wp2_with fail
  go_ret
  exact ⟨rfl, HB.out⟩
end Go.Proofs.Ytemkppjdfjoipaa
end
