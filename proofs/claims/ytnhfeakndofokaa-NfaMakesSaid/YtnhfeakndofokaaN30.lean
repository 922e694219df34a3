/- Package nfa. -/
import Derived.Test.YtnhfeakndofokaaProg
import Derived.Test.YtnhfeakndofokaaY9
import Derived.WalkKit
import Derived.WalkLawsBesides
import Derived.WalkSpells
import Derived.Outline
import Derived.Lib.Walk
import Derived.Lib.Hide
import Derived.Lib.Slices
import Derived.Lib.Strings
import Derived.RegionTactic
import Derived.LoopTactic
import Derived.Below
import Derived.IntWalk
import Derived.Deep.QuietTactic
import Derived.BigQuiet
import Derived.Deep.MidRow
import Derived.Maps.AppendAt
import Derived.Laws.Rows
import Derived.Laws.Tables
import Derived.Deep.WholeRow
import Derived.Deep.Cut
import Derived.Deep.CutRange
import Derived.Lib.SliceRun
import Derived.Laws.MakeOwn
import Derived.Deep.RegionLaw
import Derived.Deep.RegionLawGrows
namespace Go.Proofs.Ytnhfeakndofokaa
set_option linter.unusedSimpArgs false
set_option linter.unusedVariables false
set_option maxRecDepth 100000
open Go.RowKit
/- TwinInts. -/
theorem run_append_zero {P : Program} (w : World) (t ty e : TypeId) (i : TypeInfo) (ht : P.underlying t = some (.slice e)) (hi : P.info? e = some i) (a : Addr) (n c : Nat) (q : Option Addr) (c' : Nat) (hn : n ≤ c) :
    Sem.run P (Builtin.append_ #[t, t] ty #[.slice (some a) n c, .slice q 0 c']) w = .ok (.slice (some a) n c) w := by
  cases q <;> simp [Builtin.append_, underlying, ht, hi, Go.sizeOf, Go.typeInfo, Builtin.firstCells, storeCells, hn, go_sem]
theorem wpList_append_zero {P : Program} (w : World) {ops : Array Oper} {rest : List Oper} {o : Oper} {a : Act} {Q : Exit → Act → World → Prop} (hgd : o.guard = none) (s x : Operand) (t : TypeId)
    (ho : o.op = .call { callee := .builtin .append, args := #[s, x], argTypes := #[t, t] })
    (e : TypeId) (i : TypeInfo) (ht : P.underlying t = some (.slice e)) (hi : P.info? e = some i) (ad : Addr) (n c : Nat) (hs : a.eval s = .slice (some ad) n c) (q : Option Addr) (c' : Nat) (hx : a.eval x = .slice q 0 c') (hn : n ≤ c)
    (h : wpList P ops Q rest (a.put o.dst (.slice (some ad) n c)) w) : wpList P ops Q (o :: rest) a w := by
  refine wpList_plain hgd fun K hK => ?_
  have hr := run_append_zero (P := P) w t o.type e i ht hi ad n c q c' hn
  unfold Oper.wp execOp
  simp only [ho, resolve, invoke, builtin, Sem.run_bind, Sem.run_pure, Result.andThen_ok, List.map_toArray, List.map_cons, List.map_nil, hs, hx, hr]
  exact hK _ _ h
theorem info3b : (Try.prog.info? 3).map (fun i => (i.zero, i.size, i.bytes)) = some (some (.int .i64 0), 1, 8) := by kernel_rfl
def zi (l : List Int) : List Value := l.map fun x => .int .i64 x
theorem zi_one (l : List Int) : ∀ v ∈ zi l, v.oneCell' = true := by
  intro v hv
  obtain ⟨x, _, rfl⟩ := List.mem_map.1 hv
  rfl
def mk7 (k : Nat) : List Int := (List.range k).map fun i : Nat => (-7000 - (i : Int))
theorem mk7_succ (k : Nat) : mk7 (k + 1) = mk7 k ++ [-7000 - (k : Int)] := by simp [mk7, List.range_succ]
theorem mk7_len (k : Nat) : (mk7 k).length = k := by simp [mk7]
theorem row_own {w : World} {B : Nat} {e : TypeId} {size : Nat} {v : Value} {n : Nat} {xs : List Value} (h : w.ownsRow B e size v n xs) (hn : 0 < n) :
    ∃ g cap, v = .slice (some ⟨g, 0, none⟩) n cap ∧ n ≤ cap := by
  rcases h.2 with ⟨_, h0⟩ | ⟨g, cap, cur, hv, _, _, hc, _⟩
  · omega
  · exact ⟨g, cap, hv, hc⟩
/-- A twin of a list of numbers: new memory, three marks behind it. -/
def TI (B : Nat) (w : World) (l : List Int) (v : Value) : Prop := ∃ g cap, v = .slice (some ⟨g, 0, none⟩) l.length cap ∧ w.ownsRow B 3 1 (.slice (some ⟨g, 0, none⟩) (l.length + 3) cap) (l.length + 3) (zi (l ++ mk7 3))
/-- The loop behind the first append. -/
def TwI (w : World) (l : List Int) (e : Ending) (w' : World) : Prop := ∃ v, e = .returned v ∧ TI w.heap.size w' l v ∧ Below w.heap.size w w'
set_option maxHeartbeats 8000000 in
theorem twin_ints {D : Nat → Prop} {w : World} {l : List Int} {p : Option Addr} {c : Nat} (hl : l.length ≤ 1000000) (hD : ∀ b, D b → b < w.heap.size) (h : IV D w l (.slice p l.length c)) :
    Calls Try.prog 28 #[.slice p l.length c] w (TwI w l) := by
  obtain ⟨i0, hi, hz0, hz1, hz2⟩ := info_parts info3b
  have HI := Lib.hid h
  have hw0 := (Below.refl w.heap.size w).alloc (Nat.le_refl _) (.cells #[] 3)
  have S0 := Lib.hid hw0
  have HO0 : Hid ((w.alloc (.cells #[] 3)).ownsRow w.heap.size 3 1 (.slice (some ⟨w.heap.size, 0, none⟩) 0 0) 0 []) := Lib.hid ⟨by simp, .inr ⟨w.heap.size, 0, #[], rfl, Nat.le_refl _, heap_alloc_new _ _, Nat.le_refl _, by simp [maxLen], by simp, by simp⟩⟩
  have HSZ : Hid ((w.alloc (.cells #[] 3)).heap.size = w.heap.size + 1) := Lib.hid (by simp)
  clear h
  by_cases hne : l = []
  · subst hne
    clear HI HSZ hw0 hl hD
    go_enter Try.func28, Try.ntmps28
    go_wp2_with (at_builtin; refine wpList_append_zero _ rfl (.tmp 5) (.tmp 6) 39 rfl 3 i0 Try.underlying39 hi ⟨w.heap.size, 0, none⟩ 0 0 rfl p c rfl (Nat.le_refl _) ?_)
    have H1 : Hid ((w.alloc (.cells #[] 3)).ownsRow w.heap.size 3 1 (.slice (some ⟨w.heap.size, 0, none⟩) 0 0) (0 + 0) (zi ([] ++ mk7 0))) := HO0
    have L1 := S0
    clear HO0 S0
    go_wp2_with fail
    go_loopw [3, 4] (fun v i wr => ∃ k : Nat, k ≤ 3 ∧ i = .int .i64 (k : Nat) ∧ Hid (wr.ownsRow w.heap.size 3 1 v (0 + k) (zi ([] ++ mk7 k))) ∧ Hid (Below w.heap.size w wr)) (fun _ i _ => 3 - (intOf i).toNat)
    case atStart => exact ⟨0, by omega, rfl, H1, L1⟩
    case round =>
    clear H1 L1
    obtain ⟨k, hk, rfl, HO, HB⟩ := hrel
    by_cases hk3 : k < 3
    · have hk3I : (k : Int) < 3 := by omega
      have HSW := Lib.hid HB.out.size
      have HN : Hid (∀ j v, [Value.int .i64 (-7000 - (k : Int))][j]? = some v → (wr.alloc (.cells #[.int .i64 (-7000 - (k : Int))] 3)).cell? ((⟨wr.heap.size, 0, none⟩ : Addr).add j) = some v) := Lib.hid fun j v hj => by
        rw [Addr.add_mid, cell_of_row _ wr.heap.size (0 + j) _ 3 (0, 0) (heap_alloc_last wr _), Nat.zero_add]
        rw [← hj]; simp
      have HO2 := Lib.hid (World.ownsRow.alloc HO.out (.cells #[.int .i64 (-7000 - (k : Int))] 3))
      have HSZ2 : Hid ((wr.alloc (.cells #[.int .i64 (-7000 - (k : Int))] 3)).heap.size = wr.heap.size + 1) := Lib.hid (by simp)
      clear HO
      go_wp2_with (at_builtin; refine wpList_append_own_at _ rfl (.tmp 12) (.tmp 15) 39 rfl w.heap.size 3 i0 (.int .i64 0) 1 8 Try.underlying39 hi hz0 hz1 hz2 rfl (by decide) _ (0 + k) (zi ([] ++ mk7 k)) rfl ?c0 ⟨wr.heap.size, 0, none⟩ 1 1 [.int .i64 (-7000 - (k : Int))] rfl rfl ?c1 ?c2 ?c3 ?c4 ?c5 ?_)
      case c0 => exact HO2.out
      case c1 => exact HN.out
      case c2 => intro u hu; simp at hu; subst hu; rfl
      case c3 => unfold maxLen; omega
      case c4 => omega
      case c5 => have := HSW.out; have := HSZ2.out; omega
      intro v2 w2 hown2 hg2 _ _
      have HOE : Hid (w2.ownsRow w.heap.size 3 1 v2 (0 + (k + 1)) (zi ([] ++ mk7 (k + 1)))) := Lib.hid (by
        rw [mk7_succ, ← List.append_assoc, show zi (([] ++ mk7 k) ++ [-7000 - (k : Int)]) = zi ([] ++ mk7 k) ++ [.int .i64 (-7000 - (k : Int))] by simp [zi], ← Nat.add_assoc]
        first | exact hown2 | (rw [show 0 + k + 1 = k + 1 by omega, List.nil_append]; exact hown2))
      have HBE : Hid (Below w.heap.size w w2) := Lib.hid (below_grown (HB.out.alloc HSW.out _) hg2 (fun g hg => (World.ownsRow.lt HO2.out g hg).1) (by have := HSW.out; have := HSZ2.out; omega))
      clear hown2 hg2 HO2 HSZ2 HN HSW
      go_wp2_with fail
      go_roundw
      case rel => exact ⟨k + 1, by omega, by go_num, HOE, HBE⟩
      case measure => simp [intOf]; omega
    · obtain rfl : k = 3 := by omega
      obtain ⟨g, cap, rfl, hcap⟩ := row_own HO.out (by omega)
      have HCAP := Lib.hid hcap
      have i1 : ((0 : Nat) : Int) ≤ (cap : Int) := by omega
      have i2 : 0 ≤ cap := by omega
      clear hcap
      go_wp2_with fail
      go_ret
      exact ⟨_, rfl, ⟨g, cap, rfl, HO.out⟩, HB.out⟩
  · obtain ⟨p', c', he, hh⟩ := HI.out
    injection he with e1 e2 e3
    subst e1 e3
    obtain ⟨b, o, rfl, hDb, hc⟩ := hh hne
    have hbw := hD b hDb
    have HC : Hid (∀ j v, (zi l)[j]? = some v → (w.alloc (.cells #[] 3)).cell? ((⟨b, o, none⟩ : Addr).add j) = some v) := Lib.hid fun j v hj => by
      obtain ⟨hj1, hj2⟩ := List.getElem?_eq_some_iff.1 hj
      have hj3 : j < l.length := by simpa [zi] using hj1
      rw [Addr.add_mid, cell_same (hw0.block b hbw), hc j hj3, ← hj2]
      simp [zi]
    have HPOS : Hid (0 < l.length) := Lib.hid (List.length_pos_iff.2 hne)
    have HZL : Hid ((zi l).length = l.length * 1) := Lib.hid (by simp [zi])
    have HL := Lib.hid hl
    clear hh hc e2 HI hw0 hD
    go_enter Try.func28, Try.ntmps28
    go_wp2_with (at_builtin; refine wpList_append_own_at _ rfl (.tmp 5) (.tmp 6) 39 rfl w.heap.size 3 i0 (.int .i64 0) 1 8 Try.underlying39 hi hz0 hz1 hz2 rfl (by decide) (.slice (some ⟨w.heap.size, 0, none⟩) 0 0) 0 [] rfl ?c0 ⟨b, o, none⟩ l.length c (zi l) rfl HZL.out ?c1 (zi_one l) ?c3 ?c4 ?c5 ?_)
    case c0 => exact HO0.out
    case c1 => exact HC.out
    case c3 => have := HL.out; unfold maxLen; omega
    case c4 => have := HL.out; omega
    case c5 => have := HSZ.out; omega
    intro v1 w1 hown1 hg1 _ _
    have H1 : Hid (w1.ownsRow w.heap.size 3 1 v1 (l.length + 0) (zi (l ++ mk7 0))) := Lib.hid (by
      rw [show zi (l ++ mk7 0) = zi l by simp [zi, mk7], Nat.add_zero]; exact hown1)
    have L1 : Hid (Below w.heap.size w w1) := Lib.hid (below_grown S0.out hg1 (fun g hg => (World.ownsRow.lt HO0.out g hg).1) (by have := HSZ.out; omega))
    clear hown1 hg1 HO0 S0 HSZ HC HZL
    go_wp2_with fail
    go_loopw [3, 4] (fun v i wr => ∃ k : Nat, k ≤ 3 ∧ i = .int .i64 (k : Nat) ∧ Hid (wr.ownsRow w.heap.size 3 1 v (l.length + k) (zi (l ++ mk7 k))) ∧ Hid (Below w.heap.size w wr)) (fun _ i _ => 3 - (intOf i).toNat)
    case atStart => exact ⟨0, by omega, rfl, H1, L1⟩
    case round =>
    clear H1 L1
    obtain ⟨k, hk, rfl, HO, HB⟩ := hrel
    by_cases hk3 : k < 3
    · have hk3I : (k : Int) < 3 := by omega
      have HSW := Lib.hid HB.out.size
      have HN : Hid (∀ j v, [Value.int .i64 (-7000 - (k : Int))][j]? = some v → (wr.alloc (.cells #[.int .i64 (-7000 - (k : Int))] 3)).cell? ((⟨wr.heap.size, 0, none⟩ : Addr).add j) = some v) := Lib.hid fun j v hj => by
        rw [Addr.add_mid, cell_of_row _ wr.heap.size (0 + j) _ 3 (0, 0) (heap_alloc_last wr _), Nat.zero_add]
        rw [← hj]; simp
      have HO2 := Lib.hid (World.ownsRow.alloc HO.out (.cells #[.int .i64 (-7000 - (k : Int))] 3))
      have HSZ2 : Hid ((wr.alloc (.cells #[.int .i64 (-7000 - (k : Int))] 3)).heap.size = wr.heap.size + 1) := Lib.hid (by simp)
      clear HO
      go_wp2_with (at_builtin; refine wpList_append_own_at _ rfl (.tmp 12) (.tmp 15) 39 rfl w.heap.size 3 i0 (.int .i64 0) 1 8 Try.underlying39 hi hz0 hz1 hz2 rfl (by decide) _ (l.length + k) (zi (l ++ mk7 k)) rfl ?c0 ⟨wr.heap.size, 0, none⟩ 1 1 [.int .i64 (-7000 - (k : Int))] rfl rfl ?c1 ?c2 ?c3 ?c4 ?c5 ?_)
      case c0 => exact HO2.out
      case c1 => exact HN.out
      case c2 => intro u hu; simp at hu; subst hu; rfl
      case c3 => have := HL.out; unfold maxLen; omega
      case c4 => have := HL.out; omega
      case c5 => have := HSW.out; have := HSZ2.out; omega
      intro v2 w2 hown2 hg2 _ _
      have HOE : Hid (w2.ownsRow w.heap.size 3 1 v2 (l.length + (k + 1)) (zi (l ++ mk7 (k + 1)))) := Lib.hid (by
        rw [mk7_succ, ← List.append_assoc, show zi ((l ++ mk7 k) ++ [-7000 - (k : Int)]) = zi (l ++ mk7 k) ++ [.int .i64 (-7000 - (k : Int))] by simp [zi], ← Nat.add_assoc]
        first | exact hown2 | (rw [show 0 + k + 1 = k + 1 by omega, List.nil_append]; exact hown2))
      have HBE : Hid (Below w.heap.size w w2) := Lib.hid (below_grown (HB.out.alloc HSW.out _) hg2 (fun g hg => (World.ownsRow.lt HO2.out g hg).1) (by have := HSW.out; have := HSZ2.out; omega))
      clear hown2 hg2 HO2 HSZ2 HN HSW
      go_wp2_with fail
      go_roundw
      case rel => exact ⟨k + 1, by omega, by go_num, HOE, HBE⟩
      case measure => simp [intOf]; omega
    · obtain rfl : k = 3 := by omega
      obtain ⟨g, cap, rfl, hcap⟩ := row_own HO.out (by omega)
      have HCAP := Lib.hid hcap
      have i1 : ((l.length : Nat) : Int) ≤ (cap : Int) := by omega
      have i2 : l.length ≤ cap := by omega
      clear hcap
      go_wp2_with fail
      go_ret
      exact ⟨_, rfl, ⟨g, cap, rfl, HO.out⟩, HB.out⟩
end Go.Proofs.Ytnhfeakndofokaa
