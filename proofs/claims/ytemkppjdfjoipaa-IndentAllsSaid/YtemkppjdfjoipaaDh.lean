/- Packages dfa, mini, munch. -/
import Derived.Test.YtemkppjdfjoipaaProg
import Derived.Test.YtemkppjdfjoipaaU29
import Derived.WalkKit
import Derived.BigFrame
import Derived.WalkLawsBesides
import Derived.WalkSpells
import Derived.Outline
import Derived.Lib.Walk
import Derived.Lib.Hide
import Derived.Lib.Slices
import Derived.Lib.Strings
import Derived.RegionTactic
import Derived.LoopTactic
import Derived.Below
import Derived.IntWalk
import Derived.Deep.QuietTactic
import Derived.BigQuiet
import Derived.Deep.MidRow
import Derived.Maps.AppendAt
import Derived.Laws.Rows
import Derived.Laws.Tables
import Derived.Deep.WholeRow
import Derived.Deep.Cut
import Derived.Deep.CutRange
import Derived.Lib.SliceRun
import Derived.Laws.MakeOwn
import Derived.Deep.RegionLaw
import Derived.Deep.RegionLawGrows
import Derived.Deep.RegionHeld3
import Derived.RegionCalls
import Derived.Deep.RegionWith
import Derived.Deep.Light
import Derived.Laws.CopyOwn
import Derived.Laws.ResultCell
namespace Go.Proofs.Ytemkppjdfjoipaa
set_option linter.unusedSimpArgs false
set_option linter.unusedVariables false
set_option maxRecDepth 100000
open Go.RowKit
/- TwinInts, SameInts, LeftInts. -/
theorem vbool6 {a b : Bool} (h : a = b) : Ending.returned (.bool a) = .returned (.bool b) := by rw [h]
theorem run_append_zero {P : Program} (w : World) (t ty e : TypeId) (i : TypeInfo) (ht : P.underlying t = some (.slice e)) (hi : P.info? e = some i) (a : Addr) (n c : Nat) (q : Option Addr) (c' : Nat) (hn : n ≤ c) :
    Sem.run P (Builtin.append_ #[t, t] ty #[.slice (some a) n c, .slice q 0 c']) w = .ok (.slice (some a) n c) w := by
  cases q <;> simp [Builtin.append_, underlying, ht, hi, Go.sizeOf, Go.typeInfo, Builtin.firstCells, storeCells, hn, go_sem]
theorem wpList_append_zero {P : Program} (w : World) {ops : Array Oper} {rest : List Oper} {o : Oper} {a : Act} {Q : Exit → Act → World → Prop} (hgd : o.guard = none) (s x : Operand) (t : TypeId)
    (ho : o.op = .call { callee := .builtin .append, args := #[s, x], argTypes := #[t, t] })
    (e : TypeId) (i : TypeInfo) (ht : P.underlying t = some (.slice e)) (hi : P.info? e = some i) (ad : Addr) (n c : Nat) (hs : a.eval s = .slice (some ad) n c) (q : Option Addr) (c' : Nat) (hx : a.eval x = .slice q 0 c') (hn : n ≤ c)
    (h : wpList P ops Q rest (a.put o.dst (.slice (some ad) n c)) w) : wpList P ops Q (o :: rest) a w := by
  refine wpList_plain hgd fun K hK => ?_
  have hr := run_append_zero (P := P) w t o.type e i ht hi ad n c q c' hn
  unfold Oper.wp execOp
  simp only [ho, resolve, invoke, builtin, Sem.run_bind, Sem.run_pure, Result.andThen_ok, List.map_toArray, List.map_cons, List.map_nil, hs, hx, hr]
  exact hK _ _ h
theorem info3b : (Try.prog.info? 3).map (fun i => (i.zero, i.size, i.bytes)) = some (some (.int .i64 0), 1, 8) := by kernel_rfl
def zi (l : List Int) : List Value := l.map fun x => .int .i64 x
theorem zi_one (l : List Int) : ∀ v ∈ zi l, v.oneCell' = true := by
  intro v hv
  obtain ⟨x, _, rfl⟩ := List.mem_map.1 hv
  rfl
theorem row_own {w : World} {B : Nat} {e : TypeId} {size : Nat} {v : Value} {n : Nat} {xs : List Value} (h : w.ownsRow B e size v n xs) (hn : 0 < n) :
    ∃ g cap, v = .slice (some ⟨g, 0, none⟩) n cap ∧ n ≤ cap := by
  rcases h.2 with ⟨_, h0⟩ | ⟨g, cap, cur, hv, _, _, hc, _⟩
  · omega
  · exact ⟨g, cap, hv, hc⟩
theorem at_worldQ {Q : Exit → Act → World → Prop} {e : Exit} {a : Act} {w : World} (R : World → Prop) (hR : R w) (h : ∀ y, R y → Q e a y) : Q e a w := h w hR
theorem at_world {P : Program} {c : Code} {Q : Exit → Act → World → Prop} {a : Act} {w : World} (R : World → Prop) (hR : R w) (h : ∀ y, R y → c.wp P Q a y) : c.wp P Q a w := h w hR
theorem below_grown {B : Nat} {w0 w w' : World} {row : Option Nat} (h : Below B w0 w) (hg : w.grownBy w' row) (hr : ∀ g, row = some g → B ≤ g) (hB : B ≤ w.heap.size) : Below B w0 w' :=
  ⟨hg.os.trans h.os, hg.tape.trans h.tape, hg.output.trans h.output, Nat.le_trans h.size hg.size, fun k hk => (hg.block k (by omega) (fun e => by have := hr k e.symm; omega)).trans (h.block k hk)⟩
theorem below_drewN {B : Nat} {w0 w : World} (h : Below B w0 w) (n : Nat) : Below B w0 (w.drewN n) := ⟨h.os, h.tape, h.output, h.size, h.block⟩
set_option maxHeartbeats 8000000 in
theorem same_any {D E : Nat → Prop} {w : World} {a b : List Int} {pa pb : Option Addr} {ca cb : Nat} (hla : a.length ≤ 9223372036854775806) (hD : ∀ b, D b → b < w.heap.size) (hE : ∀ b, E b → b < w.heap.size) (ha : IV D w a (.slice pa a.length ca)) (hb : IV E w b (.slice pb b.length cb)) :
    Calls Try.prog 35 #[.slice pa a.length ca, .slice pb b.length cb] w fun e w' => e = .returned (.bool (decide (a = b))) ∧ Below w.heap.size w w' := by
  have HA := Lib.hid ha
  have HB := Lib.hid hb
  have HD := Lib.hid hD
  have HE := Lib.hid hE
  have S0 := Lib.hid (Below.refl w.heap.size w)
  clear ha hb hD hE
  by_cases hl : a.length = b.length
  · have HLN := Lib.hid hl
    rw [← hl]
    have hne : (((a.length : Nat) : Int) != ((a.length : Nat) : Int)) = false := by simp
    clear hl
    go_enter Try.func35, Try.ntmps35
    go_wp2_with fail
    go_loopw [5] (fun i wr => ∃ j : Nat, i = .int .i64 (j : Nat) ∧ j ≤ a.length ∧ Hid (a.take j = b.take j) ∧ Hid (Below w.heap.size w wr)) (fun i _ => a.length - (intOf i).toNat)
    case atStart => exact ⟨0, rfl, by omega, Lib.hid (by simp), S0⟩
    case round =>
      clear S0
      obtain ⟨j, rfl, hj, HT, HS⟩ := hrel
      obtain ⟨wo, rfl⟩ : ∃ wo : World, wo = wr := ⟨_, rfl⟩
      by_cases hlt : j < a.length
      · have hltb : j < b.length := by have := HLN.out; omega
        obtain ⟨p', c', he, hh⟩ := HA.out
        injection he with e1 e2 e3
        subst e1 e3
        clear e2
        obtain ⟨ba, oa, rfl, hba, hca⟩ := hh (by intro e; rw [e] at hlt; simp at hlt)
        obtain ⟨p'', c'', he, hh2⟩ := HB.out
        injection he with e4 e5 e6
        subst e4 e6
        obtain ⟨bb, ob, rfl, hbb, hcb⟩ := hh2 (by intro e; rw [e] at hltb; simp at hltb)
        have ca1 : wo.cell? ⟨ba, oa + j, none⟩ = some (.int .i64 a[j]) := (cell_same (HS.out.block ba (HD.out ba hba)) _).trans (hca j hlt)
        have cb1 : wo.cell? ⟨bb, ob + j, none⟩ = some (.int .i64 b[j]) := (cell_same (HS.out.block bb (HE.out bb hbb)) _).trans (hcb j hltb)
        have ht1 : a.take (j + 1) = a.take j ++ [a[j]] := by rw [List.take_add_one, List.getElem?_eq_getElem hlt]; rfl
        have ht2 : b.take (j + 1) = b.take j ++ [b[j]] := by rw [List.take_add_one, List.getElem?_eq_getElem hltb]; rfl
        have hneq : a[j] ≠ b[j] → a ≠ b := fun h e => h (by subst e; rfl)
        generalize a[j] = x at *
        generalize b[j] = y at *
        have HT1 := Lib.hid ht1
        have HT2 := Lib.hid ht2
        have HNE := Lib.hid hneq
        have hltI : (j : Int) < (a.length : Int) := by omega
        have hjI : ¬ (j : Int) < 0 := by omega
        clear hh hh2 hca hcb ht1 ht2 hneq e5 hltb
        by_cases hxy : x = y
        · have hxI : (x != y) = false := by rw [hxy]; simp
          have HT3 : Hid (a.take (j + 1) = b.take (j + 1)) := Lib.hid (by rw [HT1.out, HT2.out, HT.out, hxy])
          clear HT HNE hxy
          go_wp2_with fail
          go_quiet (fail)
          refine at_worldQ (fun z => Below w.heap.size w z) (below_drewN HS.out _) fun z hz => ?_
          have HS2 := Lib.hid hz
          clear hz HS ca1 cb1
          go_wp2_with fail
          go_roundw
          case rel => exact ⟨j + 1, by go_num, by omega, HT3, HS2⟩
          case measure => simp [intOf]; omega
        · have hxI : (x != y) = true := by simpa using hxy
          have HRES : Hid (decide (a = b) = false) := Lib.hid (by simpa using HNE.out hxy)
          clear HT HNE hxy
          go_wp2_with fail
          go_quiet (fail)
          refine at_worldQ (fun z => Below w.heap.size w z) (below_drewN HS.out _) fun z hz => ?_
          have HS2 := Lib.hid hz
          clear hz HS ca1 cb1
          go_wp2_with fail
          go_ret
          exact ⟨vbool6 HRES.out.symm, HS2.out⟩
      · obtain rfl : j = a.length := by omega
        have hab : a = b := by
          have := HT.out
          rwa [List.take_length, HLN.out, List.take_length] at this
        have HRES : Hid (decide (a = b) = true) := Lib.hid (by simpa using hab)
        have hltI : ¬ (a.length : Int) < (a.length : Int) := by omega
        clear hab
        go_wp2_with fail
        go_ret
        exact ⟨vbool6 HRES.out.symm, HS.out⟩
  · have hne : (((a.length : Nat) : Int) != ((b.length : Nat) : Int)) = true := by simp; omega
    have hr : decide (a = b) = false := by simp; intro e; exact hl (by rw [e])
    rw [hr]
    go_enter Try.func35, Try.ntmps35
    go_wp2_with fail
    go_ret
    exact ⟨rfl, S0.out⟩
end Go.Proofs.Ytemkppjdfjoipaa
