/- Packages dfa, mini, munch. -/
import Derived.Test.YthglciccejholaaDoorProg
import Derived.Test.YthglciccejholaaDoorZ38
import Derived.WalkKit
import Derived.BigFrame
import Derived.WalkLawsBesides
import Derived.WalkSpells
import Derived.Outline
import Derived.Lib.Walk
import Derived.Lib.Hide
import Derived.Lib.Slices
import Derived.Lib.Strings
import Derived.RegionTactic
import Derived.LoopTactic
import Derived.Below
import Derived.IntWalk
import Derived.Deep.QuietTactic
import Derived.BigQuiet
import Derived.Deep.MidRow
import Derived.Maps.AppendAt
import Derived.Laws.Rows
import Derived.Laws.Tables
import Derived.Deep.WholeRow
import Derived.Deep.Cut
import Derived.Deep.CutRange
import Derived.Lib.SliceRun
import Derived.Laws.MakeOwn
import Derived.Deep.RegionLaw
import Derived.Deep.RegionLawGrows
import Derived.Deep.RegionHeld3
import Derived.RegionCalls
import Derived.Deep.RegionWith
import Derived.Deep.Light
import Derived.Laws.CopyOwn
import Derived.Laws.ResultCell
namespace Go.Proofs.YthglciccejholaaDoor
set_option linter.unusedSimpArgs false
set_option linter.unusedVariables false
set_option maxRecDepth 100000
open Go.RowKit
/- TwinInts, SameInts, LeftInts. -/
theorem d7_vint6 {k : IntKind} {a b : Int} (h : a = b) : Value.int k a = .int k b := by rw [h]
theorem d7_vbool6 {a b : Bool} (h : a = b) : Ending.returned (.bool a) = .returned (.bool b) := by rw [h]
theorem run_append_zero {P : Program} (w : World) (t ty e : TypeId) (i : TypeInfo) (ht : P.underlying t = some (.slice e)) (hi : P.info? e = some i) (a : Addr) (n c : Nat) (q : Option Addr) (c' : Nat) (hn : n ≤ c) :
    Sem.run P (Builtin.append_ #[t, t] ty #[.slice (some a) n c, .slice q 0 c']) w = .ok (.slice (some a) n c) w := by
  cases q <;> simp [Builtin.append_, underlying, ht, hi, Go.sizeOf, Go.typeInfo, Builtin.firstCells, storeCells, hn, go_sem]
theorem wpList_append_zero {P : Program} (w : World) {ops : Array Oper} {rest : List Oper} {o : Oper} {a : Act} {Q : Exit → Act → World → Prop} (hgd : o.guard = none) (s x : Operand) (t : TypeId)
    (ho : o.op = .call { callee := .builtin .append, args := #[s, x], argTypes := #[t, t] })
    (e : TypeId) (i : TypeInfo) (ht : P.underlying t = some (.slice e)) (hi : P.info? e = some i) (ad : Addr) (n c : Nat) (hs : a.eval s = .slice (some ad) n c) (q : Option Addr) (c' : Nat) (hx : a.eval x = .slice q 0 c') (hn : n ≤ c)
    (h : wpList P ops Q rest (a.put o.dst (.slice (some ad) n c)) w) : wpList P ops Q (o :: rest) a w := by
  refine wpList_plain hgd fun K hK => ?_
  have hr := run_append_zero (P := P) w t o.type e i ht hi ad n c q c' hn
  unfold Oper.wp execOp
  simp only [ho, resolve, invoke, builtin, Sem.run_bind, Sem.run_pure, Result.andThen_ok, List.map_toArray, List.map_cons, List.map_nil, hs, hx, hr]
  exact hK _ _ h
theorem info3b : (Tryd.prog.info? 3).map (fun i => (i.zero, i.size, i.bytes)) = some (some (.int .i64 0), 1, 8) := by kernel_rfl
def zi (l : List Int) : List Value := l.map fun x => .int .i64 x
theorem zi_one (l : List Int) : ∀ v ∈ zi l, v.oneCell' = true := by
  intro v hv
  obtain ⟨x, _, rfl⟩ := List.mem_map.1 hv
  rfl
def mk7 (k : Nat) : List Int := (List.range k).map fun i : Nat => (-7000 - (i : Int))
theorem mk7_succ (k : Nat) : mk7 (k + 1) = mk7 k ++ [-7000 - (k : Int)] := by simp [mk7, List.range_succ]
theorem mk7_len (k : Nat) : (mk7 k).length = k := by simp [mk7]
theorem row_own {w : World} {B : Nat} {e : TypeId} {size : Nat} {v : Value} {n : Nat} {xs : List Value} (h : w.ownsRow B e size v n xs) (hn : 0 < n) :
    ∃ g cap, v = .slice (some ⟨g, 0, none⟩) n cap ∧ n ≤ cap := by
  rcases h.2 with ⟨_, h0⟩ | ⟨g, cap, cur, hv, _, _, hc, _⟩
  · omega
  · exact ⟨g, cap, hv, hc⟩
/-- A twin of a list of numbers: new memory, three marks behind it. -/
def TI (B : Nat) (w : World) (l : List Int) (v : Value) : Prop := ∃ g cap, v = .slice (some ⟨g, 0, none⟩) l.length cap ∧ w.ownsRow B 3 1 (.slice (some ⟨g, 0, none⟩) (l.length + 3) cap) (l.length + 3) (zi (l ++ mk7 3))
/-- The loop behind the first append. -/
def TwI (w : World) (l : List Int) (e : Ending) (w' : World) : Prop := ∃ v, e = .returned v ∧ TI w.heap.size w' l v ∧ Below w.heap.size w w'
theorem d7_at_worldQ {Q : Exit → Act → World → Prop} {e : Exit} {a : Act} {w : World} (R : World → Prop) (hR : R w) (h : ∀ y, R y → Q e a y) : Q e a w := h w hR
theorem d7_at_world {P : Program} {c : Code} {Q : Exit → Act → World → Prop} {a : Act} {w : World} (R : World → Prop) (hR : R w) (h : ∀ y, R y → c.wp P Q a y) : c.wp P Q a w := h w hR
theorem d7_below_grown {B : Nat} {w0 w w' : World} {row : Option Nat} (h : Below B w0 w) (hg : w.grownBy w' row) (hr : ∀ g, row = some g → B ≤ g) (hB : B ≤ w.heap.size) : Below B w0 w' :=
  ⟨hg.os.trans h.os, hg.tape.trans h.tape, hg.output.trans h.output, Nat.le_trans h.size hg.size, fun k hk => (hg.block k (by omega) (fun e => by have := hr k e.symm; omega)).trans (h.block k hk)⟩
theorem d7_below_drewN {B : Nat} {w0 w : World} (h : Below B w0 w) (n : Nat) : Below B w0 (w.drewN n) := ⟨h.os, h.tape, h.output, h.size, h.block⟩
set_option maxHeartbeats 8000000 in
theorem twin_ints {D : Nat → Prop} {w : World} {l : List Int} {p : Option Addr} {c : Nat} (hl : l.length ≤ 1000000) (hD : ∀ b, D b → b < w.heap.size) (h : IV D w l (.slice p l.length c)) :
    Calls Tryd.prog 53 #[.slice p l.length c] w (TwI w l) := by
  obtain ⟨i0, hi, hz0, hz1, hz2⟩ := info_parts info3b
  have HI := Lib.hid h
  have hw0 := (Below.refl w.heap.size w).alloc (Nat.le_refl _) (.cells #[] 3)
  have S0 := Lib.hid hw0
  have HO0 : Hid ((w.alloc (.cells #[] 3)).ownsRow w.heap.size 3 1 (.slice (some ⟨w.heap.size, 0, none⟩) 0 0) 0 []) := Lib.hid ⟨by simp, .inr ⟨w.heap.size, 0, #[], rfl, Nat.le_refl _, heap_alloc_new _ _, Nat.le_refl _, by simp [maxLen], by simp, by simp⟩⟩
  have HSZ : Hid ((w.alloc (.cells #[] 3)).heap.size = w.heap.size + 1) := Lib.hid (by simp)
  clear h
  by_cases hne : l = []
  · subst hne
    clear HI HSZ hw0 hl hD
    go_enter Tryd.func53, Tryd.ntmps53
    go_wp2_with (at_builtin; refine wpList_append_zero _ rfl (.tmp 5) (.tmp 6) 39 rfl 3 i0 Tryd.underlying39 hi ⟨w.heap.size, 0, none⟩ 0 0 rfl p c rfl (Nat.le_refl _) ?_)
    have H1 : Hid ((w.alloc (.cells #[] 3)).ownsRow w.heap.size 3 1 (.slice (some ⟨w.heap.size, 0, none⟩) 0 0) (0 + 0) (zi ([] ++ mk7 0))) := HO0
    have L1 := S0
    clear HO0 S0
    go_wp2_with fail
    go_loopw [3, 4] (fun v i wr => ∃ k : Nat, k ≤ 3 ∧ i = .int .i64 (k : Nat) ∧ Hid (wr.ownsRow w.heap.size 3 1 v (0 + k) (zi ([] ++ mk7 k))) ∧ Hid (Below w.heap.size w wr)) (fun _ i _ => 3 - (intOf i).toNat)
    case atStart => exact ⟨0, by omega, rfl, H1, L1⟩
    case round =>
    clear H1 L1
    obtain ⟨k, hk, rfl, HO, HB⟩ := hrel
    by_cases hk3 : k < 3
    · have hk3I : (k : Int) < 3 := by omega
      have HSW := Lib.hid HB.out.size
      have HN : Hid (∀ j v, [Value.int .i64 (-7000 - (k : Int))][j]? = some v → (wr.alloc (.cells #[.int .i64 (-7000 - (k : Int))] 3)).cell? ((⟨wr.heap.size, 0, none⟩ : Addr).add j) = some v) := Lib.hid fun j v hj => by
        rw [Addr.add_mid, cell_of_row _ wr.heap.size (0 + j) _ 3 (0, 0) (heap_alloc_last wr _), Nat.zero_add]
        rw [← hj]; simp
      have HO2 := Lib.hid (World.ownsRow.alloc HO.out (.cells #[.int .i64 (-7000 - (k : Int))] 3))
      have HSZ2 : Hid ((wr.alloc (.cells #[.int .i64 (-7000 - (k : Int))] 3)).heap.size = wr.heap.size + 1) := Lib.hid (by simp)
      clear HO
      go_wp2_with (at_builtin; refine wpList_append_own_at _ rfl (.tmp 12) (.tmp 15) 39 rfl w.heap.size 3 i0 (.int .i64 0) 1 8 Tryd.underlying39 hi hz0 hz1 hz2 rfl (by decide) _ (0 + k) (zi ([] ++ mk7 k)) rfl ?c0 ⟨wr.heap.size, 0, none⟩ 1 1 [.int .i64 (-7000 - (k : Int))] rfl rfl ?c1 ?c2 ?c3 ?c4 ?c5 ?_)
      case c0 => exact HO2.out
      case c1 => exact HN.out
      case c2 => intro u hu; simp at hu; subst hu; rfl
      case c3 => unfold maxLen; omega
      case c4 => omega
      case c5 => have := HSW.out; have := HSZ2.out; omega
      intro v2 w2 hown2 hg2 _ _
      have HOE : Hid (w2.ownsRow w.heap.size 3 1 v2 (0 + (k + 1)) (zi ([] ++ mk7 (k + 1)))) := Lib.hid (by
        rw [mk7_succ, ← List.append_assoc, show zi (([] ++ mk7 k) ++ [-7000 - (k : Int)]) = zi ([] ++ mk7 k) ++ [.int .i64 (-7000 - (k : Int))] by simp [zi], ← Nat.add_assoc]
        first | exact hown2 | (rw [show 0 + k + 1 = k + 1 by omega, List.nil_append]; exact hown2))
      have HBE : Hid (Below w.heap.size w w2) := Lib.hid (d7_below_grown (HB.out.alloc HSW.out _) hg2 (fun g hg => (World.ownsRow.lt HO2.out g hg).1) (by have := HSW.out; have := HSZ2.out; omega))
      clear hown2 hg2 HO2 HSZ2 HN HSW
      go_wp2_with fail
      go_roundw
      case rel => exact ⟨k + 1, by omega, by go_num, HOE, HBE⟩
      case measure => simp [intOf]; omega
    · obtain rfl : k = 3 := by omega
      obtain ⟨g, cap, rfl, hcap⟩ := row_own HO.out (by omega)
      have HCAP := Lib.hid hcap
      have i1 : ((0 : Nat) : Int) ≤ (cap : Int) := by omega
      have i2 : 0 ≤ cap := by omega
      clear hcap
      go_wp2_with fail
      go_ret
      exact ⟨_, rfl, ⟨g, cap, rfl, HO.out⟩, HB.out⟩
  · obtain ⟨p', c', he, hh⟩ := HI.out
    injection he with e1 e2 e3
    subst e1 e3
    obtain ⟨b, o, rfl, hDb, hc⟩ := hh hne
    have hbw := hD b hDb
    have HC : Hid (∀ j v, (zi l)[j]? = some v → (w.alloc (.cells #[] 3)).cell? ((⟨b, o, none⟩ : Addr).add j) = some v) := Lib.hid fun j v hj => by
      obtain ⟨hj1, hj2⟩ := List.getElem?_eq_some_iff.1 hj
      have hj3 : j < l.length := by simpa [zi] using hj1
      rw [Addr.add_mid, cell_same (hw0.block b hbw), hc j hj3, ← hj2]
      simp [zi]
    have HPOS : Hid (0 < l.length) := Lib.hid (List.length_pos_iff.2 hne)
    have HZL : Hid ((zi l).length = l.length * 1) := Lib.hid (by simp [zi])
    have HL := Lib.hid hl
    clear hh hc e2 HI hw0 hD
    go_enter Tryd.func53, Tryd.ntmps53
    go_wp2_with (at_builtin; refine wpList_append_own_at _ rfl (.tmp 5) (.tmp 6) 39 rfl w.heap.size 3 i0 (.int .i64 0) 1 8 Tryd.underlying39 hi hz0 hz1 hz2 rfl (by decide) (.slice (some ⟨w.heap.size, 0, none⟩) 0 0) 0 [] rfl ?c0 ⟨b, o, none⟩ l.length c (zi l) rfl HZL.out ?c1 (zi_one l) ?c3 ?c4 ?c5 ?_)
    case c0 => exact HO0.out
    case c1 => exact HC.out
    case c3 => have := HL.out; unfold maxLen; omega
    case c4 => have := HL.out; omega
    case c5 => have := HSZ.out; omega
    intro v1 w1 hown1 hg1 _ _
    have H1 : Hid (w1.ownsRow w.heap.size 3 1 v1 (l.length + 0) (zi (l ++ mk7 0))) := Lib.hid (by
      rw [show zi (l ++ mk7 0) = zi l by simp [zi, mk7], Nat.add_zero]; exact hown1)
    have L1 : Hid (Below w.heap.size w w1) := Lib.hid (d7_below_grown S0.out hg1 (fun g hg => (World.ownsRow.lt HO0.out g hg).1) (by have := HSZ.out; omega))
    clear hown1 hg1 HO0 S0 HSZ HC HZL
    go_wp2_with fail
    go_loopw [3, 4] (fun v i wr => ∃ k : Nat, k ≤ 3 ∧ i = .int .i64 (k : Nat) ∧ Hid (wr.ownsRow w.heap.size 3 1 v (l.length + k) (zi (l ++ mk7 k))) ∧ Hid (Below w.heap.size w wr)) (fun _ i _ => 3 - (intOf i).toNat)
    case atStart => exact ⟨0, by omega, rfl, H1, L1⟩
    case round =>
    clear H1 L1
    obtain ⟨k, hk, rfl, HO, HB⟩ := hrel
    by_cases hk3 : k < 3
    · have hk3I : (k : Int) < 3 := by omega
      have HSW := Lib.hid HB.out.size
      have HN : Hid (∀ j v, [Value.int .i64 (-7000 - (k : Int))][j]? = some v → (wr.alloc (.cells #[.int .i64 (-7000 - (k : Int))] 3)).cell? ((⟨wr.heap.size, 0, none⟩ : Addr).add j) = some v) := Lib.hid fun j v hj => by
        rw [Addr.add_mid, cell_of_row _ wr.heap.size (0 + j) _ 3 (0, 0) (heap_alloc_last wr _), Nat.zero_add]
        rw [← hj]; simp
      have HO2 := Lib.hid (World.ownsRow.alloc HO.out (.cells #[.int .i64 (-7000 - (k : Int))] 3))
      have HSZ2 : Hid ((wr.alloc (.cells #[.int .i64 (-7000 - (k : Int))] 3)).heap.size = wr.heap.size + 1) := Lib.hid (by simp)
      clear HO
      go_wp2_with (at_builtin; refine wpList_append_own_at _ rfl (.tmp 12) (.tmp 15) 39 rfl w.heap.size 3 i0 (.int .i64 0) 1 8 Tryd.underlying39 hi hz0 hz1 hz2 rfl (by decide) _ (l.length + k) (zi (l ++ mk7 k)) rfl ?c0 ⟨wr.heap.size, 0, none⟩ 1 1 [.int .i64 (-7000 - (k : Int))] rfl rfl ?c1 ?c2 ?c3 ?c4 ?c5 ?_)
      case c0 => exact HO2.out
      case c1 => exact HN.out
      case c2 => intro u hu; simp at hu; subst hu; rfl
      case c3 => have := HL.out; unfold maxLen; omega
      case c4 => have := HL.out; omega
      case c5 => have := HSW.out; have := HSZ2.out; omega
      intro v2 w2 hown2 hg2 _ _
      have HOE : Hid (w2.ownsRow w.heap.size 3 1 v2 (l.length + (k + 1)) (zi (l ++ mk7 (k + 1)))) := Lib.hid (by
        rw [mk7_succ, ← List.append_assoc, show zi ((l ++ mk7 k) ++ [-7000 - (k : Int)]) = zi (l ++ mk7 k) ++ [.int .i64 (-7000 - (k : Int))] by simp [zi], ← Nat.add_assoc]
        first | exact hown2 | (rw [show 0 + k + 1 = k + 1 by omega, List.nil_append]; exact hown2))
      have HBE : Hid (Below w.heap.size w w2) := Lib.hid (d7_below_grown (HB.out.alloc HSW.out _) hg2 (fun g hg => (World.ownsRow.lt HO2.out g hg).1) (by have := HSW.out; have := HSZ2.out; omega))
      clear hown2 hg2 HO2 HSZ2 HN HSW
      go_wp2_with fail
      go_roundw
      case rel => exact ⟨k + 1, by omega, by go_num, HOE, HBE⟩
      case measure => simp [intOf]; omega
    · obtain rfl : k = 3 := by omega
      obtain ⟨g, cap, rfl, hcap⟩ := row_own HO.out (by omega)
      have HCAP := Lib.hid hcap
      have i1 : ((l.length : Nat) : Int) ≤ (cap : Int) := by omega
      have i2 : l.length ≤ cap := by omega
      clear hcap
      go_wp2_with fail
      go_ret
      exact ⟨_, rfl, ⟨g, cap, rfl, HO.out⟩, HB.out⟩
set_option maxHeartbeats 8000000 in
theorem d7_same_any {D E : Nat → Prop} {w : World} {a b : List Int} {pa pb : Option Addr} {ca cb : Nat} (hla : a.length ≤ 9223372036854775806) (hD : ∀ b, D b → b < w.heap.size) (hE : ∀ b, E b → b < w.heap.size) (ha : IV D w a (.slice pa a.length ca)) (hb : IV E w b (.slice pb b.length cb)) :
    Calls Tryd.prog 43 #[.slice pa a.length ca, .slice pb b.length cb] w fun e w' => e = .returned (.bool (decide (a = b))) ∧ Below w.heap.size w w' := by
  have HA := Lib.hid ha
  have HB := Lib.hid hb
  have HD := Lib.hid hD
  have HE := Lib.hid hE
  have S0 := Lib.hid (Below.refl w.heap.size w)
  clear ha hb hD hE
  by_cases hl : a.length = b.length
  · have HLN := Lib.hid hl
    rw [← hl]
    have hne : (((a.length : Nat) : Int) != ((a.length : Nat) : Int)) = false := by simp
    clear hl
    go_enter Tryd.func43, Tryd.ntmps43
    go_wp2_with fail
    go_loopw [5] (fun i wr => ∃ j : Nat, i = .int .i64 (j : Nat) ∧ j ≤ a.length ∧ Hid (a.take j = b.take j) ∧ Hid (Below w.heap.size w wr)) (fun i _ => a.length - (intOf i).toNat)
    case atStart => exact ⟨0, rfl, by omega, Lib.hid (by simp), S0⟩
    case round =>
      clear S0
      obtain ⟨j, rfl, hj, HT, HS⟩ := hrel
      obtain ⟨wo, rfl⟩ : ∃ wo : World, wo = wr := ⟨_, rfl⟩
      by_cases hlt : j < a.length
      · have hltb : j < b.length := by have := HLN.out; omega
        obtain ⟨p', c', he, hh⟩ := HA.out
        injection he with e1 e2 e3
        subst e1 e3
        clear e2
        obtain ⟨ba, oa, rfl, hba, hca⟩ := hh (by intro e; rw [e] at hlt; simp at hlt)
        obtain ⟨p'', c'', he, hh2⟩ := HB.out
        injection he with e4 e5 e6
        subst e4 e6
        obtain ⟨bb, ob, rfl, hbb, hcb⟩ := hh2 (by intro e; rw [e] at hltb; simp at hltb)
        have ca1 : wo.cell? ⟨ba, oa + j, none⟩ = some (.int .i64 a[j]) := (cell_same (HS.out.block ba (HD.out ba hba)) _).trans (hca j hlt)
        have cb1 : wo.cell? ⟨bb, ob + j, none⟩ = some (.int .i64 b[j]) := (cell_same (HS.out.block bb (HE.out bb hbb)) _).trans (hcb j hltb)
        have ht1 : a.take (j + 1) = a.take j ++ [a[j]] := by rw [List.take_add_one, List.getElem?_eq_getElem hlt]; rfl
        have ht2 : b.take (j + 1) = b.take j ++ [b[j]] := by rw [List.take_add_one, List.getElem?_eq_getElem hltb]; rfl
        have hneq : a[j] ≠ b[j] → a ≠ b := fun h e => h (by subst e; rfl)
        generalize a[j] = x at *
        generalize b[j] = y at *
        have HT1 := Lib.hid ht1
        have HT2 := Lib.hid ht2
        have HNE := Lib.hid hneq
        have hltI : (j : Int) < (a.length : Int) := by omega
        have hjI : ¬ (j : Int) < 0 := by omega
        clear hh hh2 hca hcb ht1 ht2 hneq e5 hltb
        by_cases hxy : x = y
        · have hxI : (x != y) = false := by rw [hxy]; simp
          have HT3 : Hid (a.take (j + 1) = b.take (j + 1)) := Lib.hid (by rw [HT1.out, HT2.out, HT.out, hxy])
          clear HT HNE hxy
          go_wp2_with fail
          go_quiet (fail)
          refine d7_at_worldQ (fun z => Below w.heap.size w z) (d7_below_drewN HS.out _) fun z hz => ?_
          have HS2 := Lib.hid hz
          clear hz HS ca1 cb1
          go_wp2_with fail
          go_roundw
          case rel => exact ⟨j + 1, by go_num, by omega, HT3, HS2⟩
          case measure => simp [intOf]; omega
        · have hxI : (x != y) = true := by simpa using hxy
          have HRES : Hid (decide (a = b) = false) := Lib.hid (by simpa using HNE.out hxy)
          clear HT HNE hxy
          go_wp2_with fail
          go_quiet (fail)
          refine d7_at_worldQ (fun z => Below w.heap.size w z) (d7_below_drewN HS.out _) fun z hz => ?_
          have HS2 := Lib.hid hz
          clear hz HS ca1 cb1
          go_wp2_with fail
          go_ret
          exact ⟨d7_vbool6 HRES.out.symm, HS2.out⟩
      · obtain rfl : j = a.length := by omega
        have hab : a = b := by
          have := HT.out
          rwa [List.take_length, HLN.out, List.take_length] at this
        have HRES : Hid (decide (a = b) = true) := Lib.hid (by simpa using hab)
        have hltI : ¬ (a.length : Int) < (a.length : Int) := by omega
        clear hab
        go_wp2_with fail
        go_ret
        exact ⟨d7_vbool6 HRES.out.symm, HS.out⟩
  · have hne : (((a.length : Nat) : Int) != ((b.length : Nat) : Int)) = true := by simp; omega
    have hr : decide (a = b) = false := by simp; intro e; exact hl (by rw [e])
    rw [hr]
    go_enter Tryd.func43, Tryd.ntmps43
    go_wp2_with fail
    go_ret
    exact ⟨rfl, S0.out⟩
theorem zi_len (l : List Int) : (zi l).length = l.length := by simp [zi]
theorem mk7_get {k : Nat} (h : k < 3) (l : List Int) : (zi (l ++ mk7 3))[l.length + k]? = some (.int .i64 (-7000 - (k : Int))) := by
  rw [zi, List.getElem?_map, List.getElem?_append_right (by omega), show l.length + k - l.length = k by omega]
  rcases (by omega : k = 0 ∨ k = 1 ∨ k = 2) with rfl | rfl | rfl <;> rfl
theorem ti_row {B g cap : Nat} {w : World} {l : List Int} (h : w.ownsRow B 3 1 (.slice (some ⟨g, 0, none⟩) (l.length + 3) cap) (l.length + 3) (zi (l ++ mk7 3))) :
    (∀ i (hi : i < l.length), w.cell? ⟨g, i, none⟩ = some (.int .i64 l[i])) ∧ (∀ k, k < 3 → w.cell? ⟨g, l.length + k, none⟩ = some (.int .i64 (-7000 - (k : Int)))) ∧ l.length + 3 ≤ cap ∧ B ≤ g ∧ g < w.heap.size := by
  refine ⟨fun i hi => ?_, fun k hk => ?_, ?_, (h.lt g rfl).1, (h.lt g rfl).2⟩
  · have := h.cells (g := g) rfl i (.int .i64 l[i]) (by
      rw [zi, List.getElem?_map, List.getElem?_append_left hi, List.getElem?_eq_getElem hi]; rfl)
    rwa [Addr.add_mid, Nat.zero_add] at this
  · have := h.cells (g := g) rfl (l.length + k) _ (mk7_get hk l)
    rwa [Addr.add_mid, Nat.zero_add] at this
  · obtain ⟨g', cap', he, hc⟩ := row_own h (by omega)
    injection he with e1 e2 e3
    omega
theorem ti_iv {B g cap : Nat} {w : World} {l : List Int} (h : w.ownsRow B 3 1 (.slice (some ⟨g, 0, none⟩) (l.length + 3) cap) (l.length + 3) (zi (l ++ mk7 3))) : IV (fun b => b = g) w l (.slice (some ⟨g, 0, none⟩) l.length cap) := by
  obtain ⟨h1, _⟩ := ti_row h
  exact ⟨_, _, rfl, fun _ => ⟨g, 0, rfl, rfl, fun i hi => by rw [Nat.zero_add]; exact h1 i hi⟩⟩
set_option maxHeartbeats 8000000 in
theorem left_ints {E : Nat → Prop} {B : Nat} {w : World} {l : List Int} {v : Value} {pb : Option Addr} {cb : Nat} (hl : l.length ≤ 1000000) (hE : ∀ b, E b → b < w.heap.size) (ht : TI B w l v) (h : IV E w l (.slice pb l.length cb)) :
    Calls Tryd.prog 54 #[v, .slice pb l.length cb] w fun e w' => e = .returned (.bool true) ∧ Below w.heap.size w w' := by
  obtain ⟨g, cap, rfl, hrow⟩ := ht
  obtain ⟨h1, h2, h3, h4, h5⟩ := ti_row hrow
  have HC := Lib.hid (d7_same_any (D := fun b => b = g) (by omega) (fun b hb => by rw [hb]; exact h5) hE (ti_iv hrow) h)
  have HM := Lib.hid h2
  have HG := Lib.hid h5
  have c1 : ¬ (cap : Int) < (l.length : Int) + 3 := by omega
  have c2 : (l.length : Int) + 3 ≤ (cap : Int) := by omega
  have c3 : l.length + 3 ≤ cap := h3
  have c4 : (0 : Int) ≤ (l.length : Int) + 3 := by omega
  have c5 : ¬ (l.length : Int) + 3 < 0 := by omega
  clear hrow h h1 h2 h4 h5 h3 hE
  go_enter Tryd.func54, Tryd.ntmps54
  go_wp2_with fail
  refine HC.out.mono ?_
  rintro _ w1 ⟨rfl, hb1⟩
  rw [decide_true]
  have HB := Lib.hid hb1
  clear hb1 HC
  go_wp2_with fail
  go_loopw [6] (fun i wr => ∃ k : Nat, k ≤ 3 ∧ i = .int .i64 (k : Nat) ∧ Hid (Below w.heap.size w wr)) (fun i _ => 3 - (intOf i).toNat)
  case atStart => exact ⟨0, by omega, rfl, HB⟩
  case round =>
  clear HB
  obtain ⟨k, hk, rfl, HB⟩ := hrel
  by_cases hk3 : k < 3
  · have hk3I : (k : Int) < 3 := by omega
    have cm : wr.cell? ⟨g, l.length + k, none⟩ = some (.int .i64 (-7000 - (k : Int))) := (cell_same (HB.out.block g HG.out) _).trans (HM.out k hk3)
    go_wp2_with fail
    go_roundw
    case rel => exact ⟨k + 1, by omega, by go_num, HB⟩
    case measure => simp [intOf]; omega
  · obtain rfl : k = 3 := by omega
    go_wp2_with fail
    go_ret
    exact ⟨rfl, HB.out⟩
end Go.Proofs.YthglciccejholaaDoor
