/- Package grams. -/
import Derived.Test.YtpmkdpjcpimhkaaProg
import Derived.Deep.SlicePairs
import Derived.Deep.Slices
import Derived.Laws.IdiomArrays
import Derived.OpenShut
import Derived.WideBlind
import Derived.Great.BuildSlice
import Derived.WalkKit
import Derived.Maps.OwnSet
import Derived.Maps.OwnOps
import Derived.Maps.Own
import Derived.DeepKeys5
import Derived.BigFrame
import Derived.WalkMore
import Derived.ScopeJumps
import Derived.StillTailTactics
import Derived.Stop.BytesEq
import Derived.WalkLawsBesides
import Derived.WalkSpells
import Derived.Outline
import Derived.Lib.Walk
import Derived.Lib.Hide
import Derived.Lib.Slices
import Derived.Lib.Strings
import Derived.RegionTactic
import Derived.LoopTactic
import Derived.Below
import Derived.IntWalk
import Derived.Deep.QuietTactic
import Derived.BigQuiet
import Derived.Deep.MidRow
import Derived.Maps.AppendAt
import Derived.Laws.Rows
import Derived.Laws.Tables
import Derived.Deep.WholeRow
import Derived.Deep.Cut
import Derived.Deep.CutRange
import Derived.Lib.SliceRun
import Derived.Laws.MakeOwn
import Derived.Deep.RegionLaw
import Derived.Deep.RegionLawGrows
import Derived.Deep.RegionHeld3
import Derived.RegionCalls
import Derived.Deep.RegionWith
import Derived.Deep.Light
import Derived.Laws.CopyOwn
import Derived.Laws.ResultCell
namespace Go.Proofs.Ytpmkdpjcpimhkaa
set_option linter.unusedSimpArgs false
set_option linter.unusedVariables false
set_option maxRecDepth 100000
open Go.RowKit
open Go.Maps
theorem blk_lt {w : World} {b o : Nat} {v : Value} (h : w.cell? ⟨b, o, none⟩ = some v) : b < w.heap.size := World.block_lt_of_cell? w _ h
theorem cell_same {w w' : World} {b : Nat} (h : w'.heap[b]? = w.heap[b]?) (o : Nat) : w'.cell? ⟨b, o, none⟩ = w.cell? ⟨b, o, none⟩ := by
  unfold World.cell?; simp only [h]
def IV (D : Nat → Prop) (w : World) (l : List Int) (sl : Value) : Prop := ∃ p c, sl = .slice p l.length c ∧ (l ≠ [] → ∃ b o, p = some ⟨b, o, none⟩ ∧ D b ∧ ∀ i (h : i < l.length), w.cell? ⟨b, o + i, none⟩ = some (.int .i64 l[i]))
theorem IV.mono {D E : Nat → Prop} {w w' : World} (hE : ∀ b, D b → E b) (hw : ∀ b, D b → b < w.heap.size → w'.heap[b]? = w.heap[b]?) {l : List Int} {sl : Value} (h : IV D w l sl) : IV E w' l sl := by
  obtain ⟨p, c, rfl, h⟩ := h
  refine ⟨p, c, rfl, fun hn => ?_⟩
  obtain ⟨b, o, hp, hD, hc⟩ := h hn
  refine ⟨b, o, hp, hE b hD, fun i hi => ?_⟩
  rw [← hc i hi]
  exact cell_same (hw b hD (blk_lt (hc i hi))) _
theorem IV.nil (D : Nat → Prop) (w : World) (p : Option Addr) (c : Nat) : IV D w [] (.slice p 0 c) := ⟨p, c, rfl, fun h => absurd rfl h⟩
/- TwinInts, SameInts, LeftInts. -/
theorem vint6 {k : IntKind} {a b : Int} (h : a = b) : Value.int k a = .int k b := by rw [h]
theorem vbool6 {a b : Bool} (h : a = b) : Ending.returned (.bool a) = .returned (.bool b) := by rw [h]
theorem run_append_zero {P : Program} (w : World) (t ty e : TypeId) (i : TypeInfo) (ht : P.underlying t = some (.slice e)) (hi : P.info? e = some i) (a : Addr) (n c : Nat) (q : Option Addr) (c' : Nat) (hn : n ≤ c) :
    Sem.run P (Builtin.append_ #[t, t] ty #[.slice (some a) n c, .slice q 0 c']) w = .ok (.slice (some a) n c) w := by
  cases q <;> simp [Builtin.append_, underlying, ht, hi, Go.sizeOf, Go.typeInfo, Builtin.firstCells, storeCells, hn, go_sem]
theorem wpList_append_zero {P : Program} (w : World) {ops : Array Oper} {rest : List Oper} {o : Oper} {a : Act} {Q : Exit → Act → World → Prop} (hgd : o.guard = none) (s x : Operand) (t : TypeId)
    (ho : o.op = .call { callee := .builtin .append, args := #[s, x], argTypes := #[t, t] })
    (e : TypeId) (i : TypeInfo) (ht : P.underlying t = some (.slice e)) (hi : P.info? e = some i) (ad : Addr) (n c : Nat) (hs : a.eval s = .slice (some ad) n c) (q : Option Addr) (c' : Nat) (hx : a.eval x = .slice q 0 c') (hn : n ≤ c)
    (h : wpList P ops Q rest (a.put o.dst (.slice (some ad) n c)) w) : wpList P ops Q (o :: rest) a w := by
  refine wpList_plain hgd fun K hK => ?_
  have hr := run_append_zero (P := P) w t o.type e i ht hi ad n c q c' hn
  unfold Oper.wp execOp
  simp only [ho, resolve, invoke, builtin, Sem.run_bind, Sem.run_pure, Result.andThen_ok, List.map_toArray, List.map_cons, List.map_nil, hs, hx, hr]
  exact hK _ _ h
theorem info3b : (Try.prog.info? 3).map (fun i => (i.zero, i.size, i.bytes)) = some (some (.int .i64 0), 1, 8) := by kernel_rfl
def zi (l : List Int) : List Value := l.map fun x => .int .i64 x
theorem zi_one (l : List Int) : ∀ v ∈ zi l, v.oneCell' = true := by
  intro v hv
  obtain ⟨x, _, rfl⟩ := List.mem_map.1 hv
  rfl
def mk7 (k : Nat) : List Int := (List.range k).map fun i : Nat => (-7000 - (i : Int))
theorem mk7_succ (k : Nat) : mk7 (k + 1) = mk7 k ++ [-7000 - (k : Int)] := by simp [mk7, List.range_succ]
theorem mk7_len (k : Nat) : (mk7 k).length = k := by simp [mk7]
theorem row_own {w : World} {B : Nat} {e : TypeId} {size : Nat} {v : Value} {n : Nat} {xs : List Value} (h : w.ownsRow B e size v n xs) (hn : 0 < n) :
    ∃ g cap, v = .slice (some ⟨g, 0, none⟩) n cap ∧ n ≤ cap := by
  rcases h.2 with ⟨_, h0⟩ | ⟨g, cap, cur, hv, _, _, hc, _⟩
  · omega
  · exact ⟨g, cap, hv, hc⟩
/-- A twin of a list of numbers: new memory, three marks behind it. -/
def TI (B : Nat) (w : World) (l : List Int) (v : Value) : Prop := ∃ g cap, v = .slice (some ⟨g, 0, none⟩) l.length cap ∧ w.ownsRow B 3 1 (.slice (some ⟨g, 0, none⟩) (l.length + 3) cap) (l.length + 3) (zi (l ++ mk7 3))
/-- The loop behind the first append. -/
def TwI (w : World) (l : List Int) (e : Ending) (w' : World) : Prop := ∃ v, e = .returned v ∧ TI w.heap.size w' l v ∧ Below w.heap.size w w'
theorem at_worldQ {Q : Exit → Act → World → Prop} {e : Exit} {a : Act} {w : World} (R : World → Prop) (hR : R w) (h : ∀ y, R y → Q e a y) : Q e a w := h w hR
theorem at_world {P : Program} {c : Code} {Q : Exit → Act → World → Prop} {a : Act} {w : World} (R : World → Prop) (hR : R w) (h : ∀ y, R y → c.wp P Q a y) : c.wp P Q a w := h w hR
theorem below_grown {B : Nat} {w0 w w' : World} {row : Option Nat} (h : Below B w0 w) (hg : w.grownBy w' row) (hr : ∀ g, row = some g → B ≤ g) (hB : B ≤ w.heap.size) : Below B w0 w' :=
  ⟨hg.os.trans h.os, hg.tape.trans h.tape, hg.output.trans h.output, Nat.le_trans h.size hg.size, fun k hk => (hg.block k (by omega) (fun e => by have := hr k e.symm; omega)).trans (h.block k hk)⟩
theorem below_drewN {B : Nat} {w0 w : World} (h : Below B w0 w) (n : Nat) : Below B w0 (w.drewN n) := ⟨h.os, h.tape, h.output, h.size, h.block⟩
set_option maxHeartbeats 8000000 in
theorem twin_ints {D : Nat → Prop} {w : World} {l : List Int} {p : Option Addr} {c : Nat} (hl : l.length ≤ 1000000) (hD : ∀ b, D b → b < w.heap.size) (h : IV D w l (.slice p l.length c)) :
    Calls Try.prog 38 #[.slice p l.length c] w (TwI w l) := by
  obtain ⟨i0, hi, hz0, hz1, hz2⟩ := info_parts info3b
  have HI := Lib.hid h
  have hw0 := (Below.refl w.heap.size w).alloc (Nat.le_refl _) (.cells #[] 3)
  have S0 := Lib.hid hw0
  have HO0 : Hid ((w.alloc (.cells #[] 3)).ownsRow w.heap.size 3 1 (.slice (some ⟨w.heap.size, 0, none⟩) 0 0) 0 []) := Lib.hid ⟨by simp, .inr ⟨w.heap.size, 0, #[], rfl, Nat.le_refl _, heap_alloc_new _ _, Nat.le_refl _, by simp [maxLen], by simp, by simp⟩⟩
  have HSZ : Hid ((w.alloc (.cells #[] 3)).heap.size = w.heap.size + 1) := Lib.hid (by simp)
  clear h
  by_cases hne : l = []
  · subst hne
    clear HI HSZ hw0 hl hD
    go_enter Try.func38, Try.ntmps38
    go_wp2_with (at_builtin; refine wpList_append_zero _ rfl (.tmp 5) (.tmp 6) 31 rfl 3 i0 Try.underlying31 hi ⟨w.heap.size, 0, none⟩ 0 0 rfl p c rfl (Nat.le_refl _) ?_)
    have H1 : Hid ((w.alloc (.cells #[] 3)).ownsRow w.heap.size 3 1 (.slice (some ⟨w.heap.size, 0, none⟩) 0 0) (0 + 0) (zi ([] ++ mk7 0))) := HO0
    have L1 := S0
    clear HO0 S0
    go_wp2_with fail
    go_loopw [3, 4] (fun v i wr => ∃ k : Nat, k ≤ 3 ∧ i = .int .i64 (k : Nat) ∧ Hid (wr.ownsRow w.heap.size 3 1 v (0 + k) (zi ([] ++ mk7 k))) ∧ Hid (Below w.heap.size w wr)) (fun _ i _ => 3 - (intOf i).toNat)
    case atStart => exact ⟨0, by omega, rfl, H1, L1⟩
    case round =>
    clear H1 L1
    obtain ⟨k, hk, rfl, HO, HB⟩ := hrel
    by_cases hk3 : k < 3
    · have hk3I : (k : Int) < 3 := by omega
      have HSW := Lib.hid HB.out.size
      have HN : Hid (∀ j v, [Value.int .i64 (-7000 - (k : Int))][j]? = some v → (wr.alloc (.cells #[.int .i64 (-7000 - (k : Int))] 3)).cell? ((⟨wr.heap.size, 0, none⟩ : Addr).add j) = some v) := Lib.hid fun j v hj => by
        rw [Addr.add_mid, cell_of_row _ wr.heap.size (0 + j) _ 3 (0, 0) (heap_alloc_last wr _), Nat.zero_add]
        rw [← hj]; simp
      have HO2 := Lib.hid (World.ownsRow.alloc HO.out (.cells #[.int .i64 (-7000 - (k : Int))] 3))
      have HSZ2 : Hid ((wr.alloc (.cells #[.int .i64 (-7000 - (k : Int))] 3)).heap.size = wr.heap.size + 1) := Lib.hid (by simp)
      clear HO
      go_wp2_with (at_builtin; refine wpList_append_own_at _ rfl (.tmp 12) (.tmp 15) 31 rfl w.heap.size 3 i0 (.int .i64 0) 1 8 Try.underlying31 hi hz0 hz1 hz2 rfl (by decide) _ (0 + k) (zi ([] ++ mk7 k)) rfl ?c0 ⟨wr.heap.size, 0, none⟩ 1 1 [.int .i64 (-7000 - (k : Int))] rfl rfl ?c1 ?c2 ?c3 ?c4 ?c5 ?_)
      case c0 => exact HO2.out
      case c1 => exact HN.out
      case c2 => intro u hu; simp at hu; subst hu; rfl
      case c3 => unfold maxLen; omega
      case c4 => omega
      case c5 => have := HSW.out; have := HSZ2.out; omega
      intro v2 w2 hown2 hg2 _ _
      have HOE : Hid (w2.ownsRow w.heap.size 3 1 v2 (0 + (k + 1)) (zi ([] ++ mk7 (k + 1)))) := Lib.hid (by
        rw [mk7_succ, ← List.append_assoc, show zi (([] ++ mk7 k) ++ [-7000 - (k : Int)]) = zi ([] ++ mk7 k) ++ [.int .i64 (-7000 - (k : Int))] by simp [zi], ← Nat.add_assoc]
        first | exact hown2 | (rw [show 0 + k + 1 = k + 1 by omega, List.nil_append]; exact hown2))
      have HBE : Hid (Below w.heap.size w w2) := Lib.hid (below_grown (HB.out.alloc HSW.out _) hg2 (fun g hg => (World.ownsRow.lt HO2.out g hg).1) (by have := HSW.out; have := HSZ2.out; omega))
      clear hown2 hg2 HO2 HSZ2 HN HSW
      go_wp2_with fail
      go_roundw
      case rel => exact ⟨k + 1, by omega, by go_num, HOE, HBE⟩
      case measure => simp [intOf]; omega
    · obtain rfl : k = 3 := by omega
      obtain ⟨g, cap, rfl, hcap⟩ := row_own HO.out (by omega)
      have HCAP := Lib.hid hcap
      have i1 : ((0 : Nat) : Int) ≤ (cap : Int) := by omega
      have i2 : 0 ≤ cap := by omega
      clear hcap
      go_wp2_with fail
      go_ret
      exact ⟨_, rfl, ⟨g, cap, rfl, HO.out⟩, HB.out⟩
  · obtain ⟨p', c', he, hh⟩ := HI.out
    injection he with e1 e2 e3
    subst e1 e3
    obtain ⟨b, o, rfl, hDb, hc⟩ := hh hne
    have hbw := hD b hDb
    have HC : Hid (∀ j v, (zi l)[j]? = some v → (w.alloc (.cells #[] 3)).cell? ((⟨b, o, none⟩ : Addr).add j) = some v) := Lib.hid fun j v hj => by
      obtain ⟨hj1, hj2⟩ := List.getElem?_eq_some_iff.1 hj
      have hj3 : j < l.length := by simpa [zi] using hj1
      rw [Addr.add_mid, cell_same (hw0.block b hbw), hc j hj3, ← hj2]
      simp [zi]
    have HPOS : Hid (0 < l.length) := Lib.hid (List.length_pos_iff.2 hne)
    have HZL : Hid ((zi l).length = l.length * 1) := Lib.hid (by simp [zi])
    have HL := Lib.hid hl
    clear hh hc e2 HI hw0 hD
    go_enter Try.func38, Try.ntmps38
    go_wp2_with (at_builtin; refine wpList_append_own_at _ rfl (.tmp 5) (.tmp 6) 31 rfl w.heap.size 3 i0 (.int .i64 0) 1 8 Try.underlying31 hi hz0 hz1 hz2 rfl (by decide) (.slice (some ⟨w.heap.size, 0, none⟩) 0 0) 0 [] rfl ?c0 ⟨b, o, none⟩ l.length c (zi l) rfl HZL.out ?c1 (zi_one l) ?c3 ?c4 ?c5 ?_)
    case c0 => exact HO0.out
    case c1 => exact HC.out
    case c3 => have := HL.out; unfold maxLen; omega
    case c4 => have := HL.out; omega
    case c5 => have := HSZ.out; omega
    intro v1 w1 hown1 hg1 _ _
    have H1 : Hid (w1.ownsRow w.heap.size 3 1 v1 (l.length + 0) (zi (l ++ mk7 0))) := Lib.hid (by
      rw [show zi (l ++ mk7 0) = zi l by simp [zi, mk7], Nat.add_zero]; exact hown1)
    have L1 : Hid (Below w.heap.size w w1) := Lib.hid (below_grown S0.out hg1 (fun g hg => (World.ownsRow.lt HO0.out g hg).1) (by have := HSZ.out; omega))
    clear hown1 hg1 HO0 S0 HSZ HC HZL
    go_wp2_with fail
    go_loopw [3, 4] (fun v i wr => ∃ k : Nat, k ≤ 3 ∧ i = .int .i64 (k : Nat) ∧ Hid (wr.ownsRow w.heap.size 3 1 v (l.length + k) (zi (l ++ mk7 k))) ∧ Hid (Below w.heap.size w wr)) (fun _ i _ => 3 - (intOf i).toNat)
    case atStart => exact ⟨0, by omega, rfl, H1, L1⟩
    case round =>
    clear H1 L1
    obtain ⟨k, hk, rfl, HO, HB⟩ := hrel
    by_cases hk3 : k < 3
    · have hk3I : (k : Int) < 3 := by omega
      have HSW := Lib.hid HB.out.size
      have HN : Hid (∀ j v, [Value.int .i64 (-7000 - (k : Int))][j]? = some v → (wr.alloc (.cells #[.int .i64 (-7000 - (k : Int))] 3)).cell? ((⟨wr.heap.size, 0, none⟩ : Addr).add j) = some v) := Lib.hid fun j v hj => by
        rw [Addr.add_mid, cell_of_row _ wr.heap.size (0 + j) _ 3 (0, 0) (heap_alloc_last wr _), Nat.zero_add]
        rw [← hj]; simp
      have HO2 := Lib.hid (World.ownsRow.alloc HO.out (.cells #[.int .i64 (-7000 - (k : Int))] 3))
      have HSZ2 : Hid ((wr.alloc (.cells #[.int .i64 (-7000 - (k : Int))] 3)).heap.size = wr.heap.size + 1) := Lib.hid (by simp)
      clear HO
      go_wp2_with (at_builtin; refine wpList_append_own_at _ rfl (.tmp 12) (.tmp 15) 31 rfl w.heap.size 3 i0 (.int .i64 0) 1 8 Try.underlying31 hi hz0 hz1 hz2 rfl (by decide) _ (l.length + k) (zi (l ++ mk7 k)) rfl ?c0 ⟨wr.heap.size, 0, none⟩ 1 1 [.int .i64 (-7000 - (k : Int))] rfl rfl ?c1 ?c2 ?c3 ?c4 ?c5 ?_)
      case c0 => exact HO2.out
      case c1 => exact HN.out
      case c2 => intro u hu; simp at hu; subst hu; rfl
      case c3 => have := HL.out; unfold maxLen; omega
      case c4 => have := HL.out; omega
      case c5 => have := HSW.out; have := HSZ2.out; omega
      intro v2 w2 hown2 hg2 _ _
      have HOE : Hid (w2.ownsRow w.heap.size 3 1 v2 (l.length + (k + 1)) (zi (l ++ mk7 (k + 1)))) := Lib.hid (by
        rw [mk7_succ, ← List.append_assoc, show zi ((l ++ mk7 k) ++ [-7000 - (k : Int)]) = zi (l ++ mk7 k) ++ [.int .i64 (-7000 - (k : Int))] by simp [zi], ← Nat.add_assoc]
        first | exact hown2 | (rw [show 0 + k + 1 = k + 1 by omega, List.nil_append]; exact hown2))
      have HBE : Hid (Below w.heap.size w w2) := Lib.hid (below_grown (HB.out.alloc HSW.out _) hg2 (fun g hg => (World.ownsRow.lt HO2.out g hg).1) (by have := HSW.out; have := HSZ2.out; omega))
      clear hown2 hg2 HO2 HSZ2 HN HSW
      go_wp2_with fail
      go_roundw
      case rel => exact ⟨k + 1, by omega, by go_num, HOE, HBE⟩
      case measure => simp [intOf]; omega
    · obtain rfl : k = 3 := by omega
      obtain ⟨g, cap, rfl, hcap⟩ := row_own HO.out (by omega)
      have HCAP := Lib.hid hcap
      have i1 : ((l.length : Nat) : Int) ≤ (cap : Int) := by omega
      have i2 : l.length ≤ cap := by omega
      clear hcap
      go_wp2_with fail
      go_ret
      exact ⟨_, rfl, ⟨g, cap, rfl, HO.out⟩, HB.out⟩
set_option maxHeartbeats 8000000 in
theorem same_any {D E : Nat → Prop} {w : World} {a b : List Int} {pa pb : Option Addr} {ca cb : Nat} (hla : a.length ≤ 9223372036854775806) (hD : ∀ b, D b → b < w.heap.size) (hE : ∀ b, E b → b < w.heap.size) (ha : IV D w a (.slice pa a.length ca)) (hb : IV E w b (.slice pb b.length cb)) :
    Calls Try.prog 20 #[.slice pa a.length ca, .slice pb b.length cb] w fun e w' => e = .returned (.bool (decide (a = b))) ∧ Below w.heap.size w w' := by
  have HA := Lib.hid ha
  have HB := Lib.hid hb
  have HD := Lib.hid hD
  have HE := Lib.hid hE
  have S0 := Lib.hid (Below.refl w.heap.size w)
  clear ha hb hD hE
  by_cases hl : a.length = b.length
  · have HLN := Lib.hid hl
    rw [← hl]
    have hne : (((a.length : Nat) : Int) != ((a.length : Nat) : Int)) = false := by simp
    clear hl
    go_enter Try.func20, Try.ntmps20
    go_wp2_with fail
    go_loopw [5] (fun i wr => ∃ j : Nat, i = .int .i64 (j : Nat) ∧ j ≤ a.length ∧ Hid (a.take j = b.take j) ∧ Hid (Below w.heap.size w wr)) (fun i _ => a.length - (intOf i).toNat)
    case atStart => exact ⟨0, rfl, by omega, Lib.hid (by simp), S0⟩
    case round =>
      clear S0
      obtain ⟨j, rfl, hj, HT, HS⟩ := hrel
      obtain ⟨wo, rfl⟩ : ∃ wo : World, wo = wr := ⟨_, rfl⟩
      by_cases hlt : j < a.length
      · have hltb : j < b.length := by have := HLN.out; omega
        obtain ⟨p', c', he, hh⟩ := HA.out
        injection he with e1 e2 e3
        subst e1 e3
        clear e2
        obtain ⟨ba, oa, rfl, hba, hca⟩ := hh (by intro e; rw [e] at hlt; simp at hlt)
        obtain ⟨p'', c'', he, hh2⟩ := HB.out
        injection he with e4 e5 e6
        subst e4 e6
        obtain ⟨bb, ob, rfl, hbb, hcb⟩ := hh2 (by intro e; rw [e] at hltb; simp at hltb)
        have ca1 : wo.cell? ⟨ba, oa + j, none⟩ = some (.int .i64 a[j]) := (cell_same (HS.out.block ba (HD.out ba hba)) _).trans (hca j hlt)
        have cb1 : wo.cell? ⟨bb, ob + j, none⟩ = some (.int .i64 b[j]) := (cell_same (HS.out.block bb (HE.out bb hbb)) _).trans (hcb j hltb)
        have ht1 : a.take (j + 1) = a.take j ++ [a[j]] := by rw [List.take_add_one, List.getElem?_eq_getElem hlt]; rfl
        have ht2 : b.take (j + 1) = b.take j ++ [b[j]] := by rw [List.take_add_one, List.getElem?_eq_getElem hltb]; rfl
        have hneq : a[j] ≠ b[j] → a ≠ b := fun h e => h (by subst e; rfl)
        generalize a[j] = x at *
        generalize b[j] = y at *
        have HT1 := Lib.hid ht1
        have HT2 := Lib.hid ht2
        have HNE := Lib.hid hneq
        have hltI : (j : Int) < (a.length : Int) := by omega
        have hjI : ¬ (j : Int) < 0 := by omega
        clear hh hh2 hca hcb ht1 ht2 hneq e5 hltb
        by_cases hxy : x = y
        · have hxI : (x != y) = false := by rw [hxy]; simp
          have HT3 : Hid (a.take (j + 1) = b.take (j + 1)) := Lib.hid (by rw [HT1.out, HT2.out, HT.out, hxy])
          clear HT HNE hxy
          go_wp2_with fail
          go_quiet (fail)
          refine at_worldQ (fun z => Below w.heap.size w z) (below_drewN HS.out _) fun z hz => ?_
          have HS2 := Lib.hid hz
          clear hz HS ca1 cb1
          go_wp2_with fail
          go_roundw
          case rel => exact ⟨j + 1, by go_num, by omega, HT3, HS2⟩
          case measure => simp [intOf]; omega
        · have hxI : (x != y) = true := by simpa using hxy
          have HRES : Hid (decide (a = b) = false) := Lib.hid (by simpa using HNE.out hxy)
          clear HT HNE hxy
          go_wp2_with fail
          go_quiet (fail)
          refine at_worldQ (fun z => Below w.heap.size w z) (below_drewN HS.out _) fun z hz => ?_
          have HS2 := Lib.hid hz
          clear hz HS ca1 cb1
          go_wp2_with fail
          go_ret
          exact ⟨vbool6 HRES.out.symm, HS2.out⟩
      · obtain rfl : j = a.length := by omega
        have hab : a = b := by
          have := HT.out
          rwa [List.take_length, HLN.out, List.take_length] at this
        have HRES : Hid (decide (a = b) = true) := Lib.hid (by simpa using hab)
        have hltI : ¬ (a.length : Int) < (a.length : Int) := by omega
        clear hab
        go_wp2_with fail
        go_ret
        exact ⟨vbool6 HRES.out.symm, HS.out⟩
  · have hne : (((a.length : Nat) : Int) != ((b.length : Nat) : Int)) = true := by simp; omega
    have hr : decide (a = b) = false := by simp; intro e; exact hl (by rw [e])
    rw [hr]
    go_enter Try.func20, Try.ntmps20
    go_wp2_with fail
    go_ret
    exact ⟨rfl, S0.out⟩
theorem zi_len (l : List Int) : (zi l).length = l.length := by simp [zi]
theorem mk7_get {k : Nat} (h : k < 3) (l : List Int) : (zi (l ++ mk7 3))[l.length + k]? = some (.int .i64 (-7000 - (k : Int))) := by
  rw [zi, List.getElem?_map, List.getElem?_append_right (by omega), show l.length + k - l.length = k by omega]
  rcases (by omega : k = 0 ∨ k = 1 ∨ k = 2) with rfl | rfl | rfl <;> rfl
theorem ti_row {B g cap : Nat} {w : World} {l : List Int} (h : w.ownsRow B 3 1 (.slice (some ⟨g, 0, none⟩) (l.length + 3) cap) (l.length + 3) (zi (l ++ mk7 3))) :
    (∀ i (hi : i < l.length), w.cell? ⟨g, i, none⟩ = some (.int .i64 l[i])) ∧ (∀ k, k < 3 → w.cell? ⟨g, l.length + k, none⟩ = some (.int .i64 (-7000 - (k : Int)))) ∧ l.length + 3 ≤ cap ∧ B ≤ g ∧ g < w.heap.size := by
  refine ⟨fun i hi => ?_, fun k hk => ?_, ?_, (h.lt g rfl).1, (h.lt g rfl).2⟩
  · have := h.cells (g := g) rfl i (.int .i64 l[i]) (by
      rw [zi, List.getElem?_map, List.getElem?_append_left hi, List.getElem?_eq_getElem hi]; rfl)
    rwa [Addr.add_mid, Nat.zero_add] at this
  · have := h.cells (g := g) rfl (l.length + k) _ (mk7_get hk l)
    rwa [Addr.add_mid, Nat.zero_add] at this
  · obtain ⟨g', cap', he, hc⟩ := row_own h (by omega)
    injection he with e1 e2 e3
    omega
theorem ti_iv {B g cap : Nat} {w : World} {l : List Int} (h : w.ownsRow B 3 1 (.slice (some ⟨g, 0, none⟩) (l.length + 3) cap) (l.length + 3) (zi (l ++ mk7 3))) : IV (fun b => b = g) w l (.slice (some ⟨g, 0, none⟩) l.length cap) := by
  obtain ⟨h1, _⟩ := ti_row h
  exact ⟨_, _, rfl, fun _ => ⟨g, 0, rfl, rfl, fun i hi => by rw [Nat.zero_add]; exact h1 i hi⟩⟩
set_option maxHeartbeats 8000000 in
theorem left_ints {E : Nat → Prop} {B : Nat} {w : World} {l : List Int} {v : Value} {pb : Option Addr} {cb : Nat} (hl : l.length ≤ 1000000) (hE : ∀ b, E b → b < w.heap.size) (ht : TI B w l v) (h : IV E w l (.slice pb l.length cb)) :
    Calls Try.prog 44 #[v, .slice pb l.length cb] w fun e w' => e = .returned (.bool true) ∧ Below w.heap.size w w' := by
  obtain ⟨g, cap, rfl, hrow⟩ := ht
  obtain ⟨h1, h2, h3, h4, h5⟩ := ti_row hrow
  have HC := Lib.hid (same_any (D := fun b => b = g) (by omega) (fun b hb => by rw [hb]; exact h5) hE (ti_iv hrow) h)
  have HM := Lib.hid h2
  have HG := Lib.hid h5
  have c1 : ¬ (cap : Int) < (l.length : Int) + 3 := by omega
  have c2 : (l.length : Int) + 3 ≤ (cap : Int) := by omega
  have c3 : l.length + 3 ≤ cap := h3
  have c4 : (0 : Int) ≤ (l.length : Int) + 3 := by omega
  have c5 : ¬ (l.length : Int) + 3 < 0 := by omega
  clear hrow h h1 h2 h4 h5 h3 hE
  go_enter Try.func44, Try.ntmps44
  go_wp2_with fail
  refine HC.out.mono ?_
  rintro _ w1 ⟨rfl, hb1⟩
  rw [decide_true]
  have HB := Lib.hid hb1
  clear hb1 HC
  go_wp2_with fail
  go_loopw [6] (fun i wr => ∃ k : Nat, k ≤ 3 ∧ i = .int .i64 (k : Nat) ∧ Hid (Below w.heap.size w wr)) (fun i _ => 3 - (intOf i).toNat)
  case atStart => exact ⟨0, by omega, rfl, HB⟩
  case round =>
  clear HB
  obtain ⟨k, hk, rfl, HB⟩ := hrel
  by_cases hk3 : k < 3
  · have hk3I : (k : Int) < 3 := by omega
    have cm : wr.cell? ⟨g, l.length + k, none⟩ = some (.int .i64 (-7000 - (k : Int))) := (cell_same (HB.out.block g HG.out) _).trans (HM.out k hk3)
    go_wp2_with fail
    go_roundw
    case rel => exact ⟨k + 1, by omega, by go_num, HB⟩
    case measure => simp [intOf]; omega
  · obtain rfl : k = 3 := by omega
    go_wp2_with fail
    go_ret
    exact ⟨rfl, HB.out⟩
theorem below_row {B b : Nat} {w w' : World} (h : Below B w w') (hb : B ≤ b) (cs : Array Value) : Below B w (w'.setRow b cs) :=
  ⟨h.os, h.tape, h.output, by simpa using h.size, fun k hk => (setRow_other w' b k cs (by omega)).trans (h.block k hk)⟩
def putA : Array Value → Nat → List Value → Array Value
  | cs, _, [] => cs
  | cs, o, v :: r => putA (cs.setIfInBounds o v) (o + 1) r
theorem putA_get : ∀ (vs : List Value) (cs : Array Value) (o i : Nat), o + vs.length ≤ cs.size → (putA cs o vs)[i]? = if o ≤ i ∧ i < o + vs.length then vs[i - o]? else cs[i]?
  | [], cs, o, i, _ => by
    rw [putA, if_neg (by rintro ⟨h1, h2⟩; simp at h2; omega)]
  | v :: r, cs, o, i, h => by
    simp only [List.length_cons] at h
    rw [putA, putA_get r _ (o + 1) i (by simp; omega), Array.getElem?_setIfInBounds]
    simp only [List.length_cons]
    by_cases h1 : o = i
    · subst h1
      rw [if_neg (by omega), if_pos rfl, if_pos (by omega), if_pos (by omega)]
      simp
    · by_cases h2 : o + 1 ≤ i ∧ i < o + 1 + r.length
      · rw [if_pos h2, if_pos (by omega), show i - o = (i - (o + 1)) + 1 by omega]; simp
      · rw [if_neg h2, if_neg h1, if_neg (by omega)]
theorem putA_size : ∀ (vs : List Value) (cs : Array Value) (o : Nat), (putA cs o vs).size = cs.size
  | [], _, _ => rfl
  | v :: r, cs, o => by rw [putA, putA_size]; simp
theorem setCells_heap {b : Nat} {t : TypeId} : ∀ (vs : List Value) (o : Nat) (w : World) (cs : Array Value), w.heap[b]? = some (.cells cs t (0, 0)) → (w.setCells b o vs).heap[b]? = some (.cells (putA cs o vs) t (0, 0))
  | [], _, _, _, h => h
  | v :: r, o, w, cs, h => setCells_heap r (o + 1) _ _ (heap_setCell_same w b o cs t v h)
theorem setCells_other {b z : Nat} (hz : z ≠ b) : ∀ (vs : List Value) (o : Nat) (w : World), (w.setCells b o vs).heap[z]? = w.heap[z]?
  | [], _, _ => rfl
  | v :: r, o, w => by
    rw [World.setCells, setCells_other hz r, heap_setCell_other _ _ _ _ (by simpa using hz)]
theorem setCells_below {B b : Nat} {w0 : World} (hb : B ≤ b) : ∀ (vs : List Value) (o : Nat) (w : World), Below B w0 w → Below B w0 (w.setCells b o vs)
  | [], _, _, h => h
  | v :: r, o, w, h => setCells_below hb r (o + 1) _ (h.setCell (p := ⟨b, o, none⟩) hb v)
theorem setCells_size {b : Nat} : ∀ (vs : List Value) (o : Nat) (w : World), (w.setCells b o vs).heap.size = w.heap.size
  | [], _, _ => rfl
  | v :: r, o, w => by rw [World.setCells, setCells_size r]; simp
theorem row_base {w : World} {B C : Nat} {e : TypeId} {size : Nat} {v : Value} {n : Nat} {xs : List Value} (h : w.ownsRow B e size v n xs) (hc : C ≤ B) : w.ownsRow C e size v n xs := by
  refine ⟨h.1, ?_⟩
  rcases h.2 with h1 | ⟨g, cap, cur, hv, hb, hr⟩
  · exact .inl h1
  · exact .inr ⟨g, cap, cur, hv, Nat.le_trans hc hb, hr⟩
theorem row_form {y : World} {B : Nat} {e : TypeId} {sl : Value} {n : Nat} {xs : List Value} {k : Nat} (h : y.ownsRow B e k sl n xs) : ∃ p c, sl = .slice p n c := by
  rcases h.2 with ⟨rfl, rfl⟩ | ⟨g, cap, cur, rfl, _⟩
  · exact ⟨_, _, rfl⟩
  · exact ⟨_, _, rfl⟩
theorem set_grown (w : World) (b i : Nat) (v : Value) : w.grownBy (w.setCell ⟨b, i, none⟩ v) (some b) := by
  have hb := (Below.refl 0 w).setCell (p := ⟨b, i, none⟩) (Nat.zero_le _) v
  exact ⟨hb.os, hb.tape, hb.output, hb.size, fun k _ hk => setCells_other (b := b) (by intro e; exact hk (by rw [e])) [v] i w⟩
theorem row_grown (w : World) (b : Nat) (cs : Array Value) : w.grownBy (w.setRow b cs) (some b) :=
  ⟨rfl, rfl, rfl, by simp, fun k _ hk => setRow_other w b k cs (by intro e; exact hk (by rw [e]))⟩
theorem grown_setCell (w : World) (g i : Nat) (v : Value) : w.grownBy (w.setCell ⟨g, i, none⟩ v) (some g) := ⟨rfl, rfl, rfl, by simp, fun k hk hne => heap_setCell_other w _ k _ (fun e => hne (by rw [e]))⟩
/- What lies in the blocks that a call has made. -/
inductive It where
  | box (b : Nat) (o : Obj)
  | row (v : Value) (e : TypeId) (size n : Nat) (xs : List Value)
def It.blk : It → Option Nat
  | .box b _ => some b
  | .row v _ _ _ _ => v.ownBlock
def It.lies (B : Nat) (w : World) : It → Prop
  | .box b o => B ≤ b ∧ w.heap[b]? = some o
  | .row v e size n xs => w.ownsRow B e size v n xs
def Apart (x y : It) : Prop := ∀ b, x.blk = some b → y.blk ≠ some b
theorem Apart.symm {x y : It} (h : Apart x y) : Apart y x := fun b hy hx => h b hx hy
theorem It.lt {B : Nat} {w : World} {x : It} (h : x.lies B w) {b : Nat} (hb : x.blk = some b) : B ≤ b ∧ b < w.heap.size := by
  cases x with
  | box b' o =>
    have e : b' = b := by simpa [It.blk] using hb
    subst e
    exact ⟨h.1, (Array.getElem?_eq_some_iff.1 h.2).1⟩
  | row v e size n xs => exact World.ownsRow.lt h b hb
theorem It.kept {B : Nat} {w w' : World} {row : Option Nat} {x : It} (hg : w.grownBy w' row) (h : x.lies B w) (hn : ∀ b, x.blk = some b → some b ≠ row) : x.lies B w' := by
  cases x with
  | box b o => exact ⟨h.1, (hg.block b (Array.getElem?_eq_some_iff.1 h.2).1 (hn b rfl)).trans h.2⟩
  | row v e size n xs =>
    refine World.ownsRow.kept h hg ?_
    cases hv : v.ownBlock with
    | none => exact .inl rfl
    | some b => exact .inr (hn b hv)
structure Sep (B : Nat) (w0 w : World) (L : List It) : Prop where
  bel : Below B w0 w
  sz : B ≤ w.heap.size
  li : ∀ x ∈ L, x.lies B w
  ap : L.Pairwise Apart
theorem Sep.start (w : World) : Sep w.heap.size w w [] := ⟨Below.refl _ _, Nat.le_refl _, by simp, .nil⟩
theorem Sep.drew {B : Nat} {w0 w : World} {L : List It} (h : Sep B w0 w L) : Sep B w0 w.drew L :=
  ⟨below_drewN h.bel 1, h.sz, fun x hx => It.kept (row := none) ⟨rfl, rfl, rfl, Nat.le_refl _, fun _ _ _ => rfl⟩ (h.li x hx) (fun _ _ e => by cases e), h.ap⟩
theorem Sep.alloc {B : Nat} {w0 w : World} {L : List It} (h : Sep B w0 w L) (o : Obj) : Sep B w0 (w.alloc o) (.box w.heap.size o :: L) := by
  refine ⟨h.bel.alloc h.sz _, by simp; have := h.sz; omega, fun x hx => ?_, List.pairwise_cons.2 ⟨fun y hy b hb hyb => ?_, h.ap⟩⟩
  · rcases List.mem_cons.1 hx with rfl | hx
    · exact ⟨h.sz, heap_alloc_last w o⟩
    · exact It.kept (World.grownBy_alloc w o none) (h.li x hx) (fun _ _ e => by cases e)
  · have e : w.heap.size = b := by simpa [It.blk] using hb
    have := (It.lt (h.li y hy) hyb).2
    omega
theorem Sep.rep {B : Nat} {w0 w w' : World} {L : List It} {x x' : It} (h : Sep B w0 w (x :: L)) (hg : w.grownBy w' x.blk) (hl : x'.lies B w') (hat : ∀ b, x'.blk = some b → x.blk = some b ∨ w.heap.size ≤ b) : Sep B w0 w' (x' :: L) := by
  have hx := h.li x (List.mem_cons_self ..)
  have hap := List.pairwise_cons.1 h.ap
  refine ⟨below_grown h.bel hg (fun g e => (It.lt hx e).1) h.sz, Nat.le_trans h.sz hg.size, fun y hy => ?_, List.pairwise_cons.2 ⟨fun y hy b hb hyb => ?_, hap.2⟩⟩
  · rcases List.mem_cons.1 hy with rfl | hy
    · exact hl
    · exact It.kept hg (h.li y (List.mem_cons_of_mem _ hy)) (fun b hb e => hap.1 y hy b e.symm hb)
  · rcases hat b hb with e | e
    · exact hap.1 y hy b e hyb
    · have := (It.lt (h.li y (List.mem_cons_of_mem _ hy)) hyb).2
      omega
theorem Sep.same {B : Nat} {w0 w : World} {L : List It} {x x' : It} (h : Sep B w0 w (x :: L)) (hl : x'.lies B w) (hat : x'.blk = x.blk) : Sep B w0 w (x' :: L) :=
  h.rep ⟨rfl, rfl, rfl, Nat.le_refl _, fun _ _ _ => rfl⟩ hl (fun b hb => .inl (hat ▸ hb))
theorem Sep.up {B : Nat} {w0 w w' : World} {L : List It} (h : Sep B w0 w L) (hb : Below w.heap.size w w') : Sep B w0 w' L :=
  ⟨h.bel.trans (hb.mono h.sz), Nat.le_trans h.sz hb.size, fun x hx => It.kept (row := none) ⟨hb.os, hb.tape, hb.output, hb.size, fun k hk _ => hb.block k hk⟩ (h.li x hx) (fun _ _ e => by cases e), h.ap⟩
theorem Sep.tl {B : Nat} {w0 w : World} {L : List It} {x : It} (h : Sep B w0 w (x :: L)) : Sep B w0 w L := ⟨h.bel, h.sz, fun y hy => h.li y (List.mem_cons_of_mem _ hy), (List.pairwise_cons.1 h.ap).2⟩
theorem Sep.empty {B b e size : Nat} {w0 w : World} {L : List It} (h : Sep B w0 w (.box b (.cells #[] e (0, 0)) :: L)) : Sep B w0 w (.row (.slice (some ⟨b, 0, none⟩) 0 0) e size 0 [] :: L) := by
  have hx := h.li _ (List.mem_cons_self ..)
  exact h.same ⟨by simp, .inr ⟨b, 0, #[], rfl, hx.1, hx.2, Nat.le_refl _, by simp [maxLen], by simp, by simp⟩⟩ rfl
theorem Sep.app {B e size n m : Nat} {v v' : Value} {xs ys : List Value} {w0 w w' : World} {L : List It} (h : Sep B w0 w (.row v e size n xs :: L)) (hown : w'.ownsRow B e size v' m ys) (hg : w.grownBy w' v.ownBlock) (hat : v'.ownBlock = v.ownBlock ∨ v'.ownBlock = some w.heap.size) : Sep B w0 w' (.row v' e size m ys :: L) :=
  h.rep (x := .row v e size n xs) (x' := .row v' e size m ys) hg hown (fun b hb => hat.elim (fun e => .inl (e.symm.trans hb)) fun e => .inr (by have h2 : v'.ownBlock = some b := hb; rw [e] at h2; cases h2; exact Nat.le_refl _))
theorem Sep.put {B b : Nat} {o o' : Obj} {w0 w w' : World} {L : List It} (h : Sep B w0 w (.box b o :: L)) (hg : w.grownBy w' (some b)) (hb : w'.heap[b]? = some o') : Sep B w0 w' (.box b o' :: L) :=
  h.rep (x := .box b o) (x' := .box b o') hg ⟨(h.li _ (List.mem_cons_self ..)).1, hb⟩ (fun b' hb' => .inl hb')
section
variable {B : Nat} {w0 w w' : World} {L L' : List It}
theorem Sep.perm (h : Sep B w0 w L) (hp : List.Perm L L') : Sep B w0 w L' :=
  ⟨h.bel, h.sz, fun x hx => h.li x (hp.mem_iff.2 hx), (hp.pairwise_iff (fun h => h.symm)).1 h.ap⟩
theorem Sep.add {e : TypeId} {size n : Nat} {v : Value} {xs : List Value} (h : Sep B w0 w L) (hb : Below w.heap.size w w') (hr : w'.ownsRow w.heap.size e size v n xs) : Sep B w0 w' (.row v e size n xs :: L) := by
  have h1 := h.up hb
  refine ⟨h1.bel, h1.sz, fun x hx => ?_, List.pairwise_cons.2 ⟨fun y hy b hb' hyb => ?_, h1.ap⟩⟩
  · rcases List.mem_cons.1 hx with rfl | hx
    · exact row_base hr h.sz
    · exact h1.li x hx
  · have h2 := (It.lt (h.li y hy) hyb).2
    have h3 := (World.ownsRow.lt hr b hb').1
    omega
theorem Sep.at {x : It} (h : Sep B w0 w (x :: L)) : x.lies B w := h.li x (List.mem_cons_self ..)
theorem Sep.none_ (h : Sep B w0 w L) (e : TypeId) (size : Nat) : Sep B w0 w (.row (.slice none 0 0) e size 0 [] :: L) := by
  refine ⟨h.bel, h.sz, fun x hx => ?_, List.pairwise_cons.2 ⟨fun y hy b hb => (by cases hb), h.ap⟩⟩
  rcases List.mem_cons.1 hx with rfl | hx
  · exact ⟨by simp, .inl ⟨rfl, rfl⟩⟩
  · exact h.li x hx
theorem Sep.full {cs : Array Value} {e : TypeId} {size n : Nat} {b : Nat} (h : Sep B w0 w (.box b (.cells cs e (0, 0)) :: L)) (hn : cs.size = n * size) (hm : n ≤ maxLen) : Sep B w0 w (.row (.slice (some ⟨b, 0, none⟩) n n) e size n cs.toList :: L) := by
  have hx := h.at
  exact h.same ⟨by simp [hn], .inr ⟨b, n, cs, rfl, hx.1, hx.2, Nat.le_refl _, hm, hn, by rw [← hn, ← Array.length_toList, List.take_length]⟩⟩ rfl
end
theorem Sep.boxAt {B b : Nat} {w0 w : World} {L : List It} {cs : Array Value} {t : TypeId} (h : Sep B w0 w (.box b (.cells cs t (0, 0)) :: L)) (j : Nat) : w.cell? ⟨b, j, none⟩ = cs[j]? := cell_of_row w b j cs t (0, 0) h.at.2
theorem Sep.swap {B : Nat} {w0 w : World} {L : List It} {x y : It} (h : Sep B w0 w (x :: y :: L)) : Sep B w0 w (y :: x :: L) := h.perm (List.Perm.swap _ _ _)
theorem Sep.fz {B b : Nat} {w0 w : World} {L : List It} {cs : Array Value} {t : TypeId} (h : Sep B w0 w (.box b (.cells cs t (0, 0)) :: L)) (j : Nat) : w.frozen? ⟨b, j, none⟩ = false := frozen_of_row w b j cs t h.at.2
theorem Sep.setc {B b : Nat} {w0 w : World} {L : List It} {cs : Array Value} {t : TypeId} (h : Sep B w0 w (.box b (.cells cs t (0, 0)) :: L)) (i : Nat) (v : Value) : Sep B w0 (w.setCell ⟨b, i, none⟩ v) (.box b (.cells (cs.setIfInBounds i v) t (0, 0)) :: L) :=
  h.put ⟨rfl, rfl, rfl, by simp, fun k hk hne => heap_setCell_other w _ k _ (fun e => hne (by rw [e]))⟩ (heap_setCell_same w b i cs t v h.at.2)
theorem Sep.setAt {B b : Nat} {w0 w : World} (L1 : List It) {L2 : List It} {cs : Array Value} {t : TypeId} (h : Sep B w0 w (L1 ++ .box b (.cells cs t (0, 0)) :: L2)) (i : Nat) (v : Value) : Sep B w0 (w.setCell ⟨b, i, none⟩ v) (L1 ++ .box b (.cells (cs.setIfInBounds i v) t (0, 0)) :: L2) :=
  ((h.perm List.perm_middle).setc i v).perm List.perm_middle.symm
theorem Sep.sub {B : Nat} {w0 w : World} {L L' : List It} (h : Sep B w0 w L) (hs : List.Sublist L' L) : Sep B w0 w L' :=
  ⟨h.bel, h.sz, fun x hx => h.li x (hs.subset hx), h.ap.sublist hs⟩
theorem Sep.allocAt {B b : Nat} {w0 w : World} {L : List It} (h : Sep B w0 w L) (hb : w.heap.size = b) (o : Obj) : Sep B w0 (w.alloc o) (.box b o :: L) := hb ▸ h.alloc o
theorem Sep.rebase {B : Nat} {w0 w : World} {L : List It} (h : Sep B w0 w L) : Sep B w w L := ⟨Below.refl _ _, h.sz, h.li, h.ap⟩
theorem Sep.onto {B : Nat} {w0 w w' : World} {L M : List It} (h : Sep B w0 w L) (h2 : Sep B w w' M) : Sep B w0 w' M := ⟨h.bel.trans h2.bel, h2.sz, h2.li, h2.ap⟩
def cnd (b : Bool) (L : List It) : List It := bif b then L else []
theorem cnd_t (L : List It) : cnd true L = L := rfl
theorem cnd_f (L : List It) : cnd false L = [] := rfl
theorem at_K {K : Act → World → Prop} {a : Act} {w : World} (R : World → Prop) (hR : R w) (h : ∀ y, R y → K a y) : K a w := h w hR
theorem Sep.putRow {B b : Nat} {w0 w : World} {L : List It} {cs : Array Value} {t : TypeId} (h : Sep B w0 w (.box b (.cells cs t (0, 0)) :: L)) (cs' : Array Value) : Sep B w0 (w.setRow b cs') (.box b (.cells cs' t (0, 0)) :: L) :=
  h.put ⟨rfl, rfl, rfl, by simp, fun k hk hne => setRow_other w b k _ (fun e => hne (by rw [e]))⟩ (setRow_heap w b _ _ t (0, 0) h.at.2)
theorem Sep.to {B : Nat} {w0 w : World} {L : List It} (k : Nat) (h : Sep B w0 w L) (hk : k < L.length) : Sep B w0 w (L[k] :: L.eraseIdx k) := by
  refine h.perm ?_
  have e : L = L.take k ++ L[k] :: L.drop (k + 1) := by rw [List.getElem_cons_drop, List.take_append_drop]
  rw [List.eraseIdx_eq_take_drop_succ]
  conv => lhs; rw [e]
  exact List.perm_middle
theorem It.base {B C : Nat} {w : World} {x : It} (h : x.lies B w) (hc : C ≤ B) : x.lies C w := by
  cases x with
  | box b o => exact ⟨Nat.le_trans hc h.1, h.2⟩
  | row v e size n xs => exact row_base h hc
theorem Sep.join {B : Nat} {w0 w w' : World} {L M : List It} (h : Sep B w0 w L) (h2 : Sep w.heap.size w w' M) : Sep B w0 w' (M ++ L) := by
  refine ⟨h.bel.trans (h2.bel.mono h.sz), Nat.le_trans h.sz h2.bel.size, fun x hx => ?_, List.pairwise_append.2 ⟨h2.ap, h.ap, fun x hx y hy b hb hyb => ?_⟩⟩
  · rcases List.mem_append.1 hx with hx | hx
    · exact It.base (h2.li x hx) h.sz
    · exact (h.up h2.bel).li x hx
  · have h3 := (It.lt (h2.li x hx) hb).1
    have h4 := (It.lt (h.li y hy) hyb).2
    omega
theorem Sep.rowset {B g m cap n size j : Nat} {e : TypeId} {w0 w : World} {xs : List Value} {L : List It} (h : Sep B w0 w (.row (.slice (some ⟨g, 0, none⟩) m cap) e size n xs :: L)) (hj : j < xs.length) (v : Value) :
    w.cell? ⟨g, j, none⟩ = xs[j]? ∧ w.frozen? ⟨g, j, none⟩ = false ∧ Sep B w0 (w.setCell ⟨g, j, none⟩ v) (.row (.slice (some ⟨g, 0, none⟩) m cap) e size n (xs.set j v) :: L) := by
  have hr : w.ownsRow B e size (.slice (some ⟨g, 0, none⟩) m cap) n xs := h.at
  rcases hr.2 with ⟨hv, _⟩ | ⟨g', cap', cur, hv, h1, h2, h3, h4, h5, h6⟩
  · cases hv
  · injection hv with e1 e2 e3
    injection e1 with e1
    injection e1 with e1 _
    subst e1 e2 e3
    have hlt : j < cur.toList.length := by
      rw [← h6] at hj
      simp only [List.length_take] at hj
      omega
    have hc : w.cell? ⟨g, j, none⟩ = xs[j]? := by
      rw [cell_of_row w g j cur e (0, 0) h2, ← h6, List.getElem?_take, if_pos (by rw [← hr.1]; exact hj)]
      simp
    refine ⟨hc, frozen_of_row w g j cur e h2, ?_⟩
    refine h.rep (x := .row (.slice (some ⟨g, 0, none⟩) m cap) e size m xs) (x' := .row (.slice (some ⟨g, 0, none⟩) m cap) e size m (xs.set j v)) (grown_setCell w g j v) ⟨by rw [List.length_set]; exact hr.1, .inr ⟨g, cap, cur.setIfInBounds j v, rfl, h1, heap_setCell_same w g j cur e v h2, h3, h4, by rw [Array.size_setIfInBounds]; exact h5, ?_⟩⟩ (fun b hb => .inl hb)
    rw [Array.toList_setIfInBounds, List.take_set, h6]
theorem rowF_ {y : World} {B : Nat} {e : TypeId} {sl : Value} {n : Nat} {xs : List Value} {k : Nat} (h : y.ownsRow B e k sl n xs) : ∃ p c, sl = .slice p n c := by
  rcases h.2 with ⟨rfl, rfl⟩ | ⟨g, cap, cur, rfl, _⟩
  · exact ⟨_, _, rfl⟩
  · exact ⟨_, _, rfl⟩
theorem Sep.repAt {B : Nat} {w0 w w' : World} {l₁ l₂ : List It} {x x' : It} (h : Sep B w0 w (l₁ ++ x :: l₂)) (hg : w.grownBy w' x.blk) (hl : x'.lies B w') (hat : ∀ b, x'.blk = some b → x.blk = some b ∨ w.heap.size ≤ b) : Sep B w0 w' (l₁ ++ x' :: l₂) :=
  ((h.perm List.perm_middle).rep hg hl hat).perm List.perm_middle.symm
theorem own_ivD {B : Nat} {w : World} {l : List Int} {v : Value} (h : w.ownsRow B 3 1 v l.length (zi l)) : IV (fun b => b < w.heap.size) w l v := by
  rcases h.2 with ⟨hv, h0⟩ | ⟨g, cap, cur, hv, hb, hg, hc, hc2, hc3, hc4⟩
  · have e : l = [] := List.length_eq_zero_iff.1 h0
    subst e
    rw [hv]
    exact ⟨none, 0, rfl, fun h => absurd rfl h⟩
  · rw [hv]
    refine ⟨_, _, rfl, fun _ => ⟨g, 0, rfl, (Array.getElem?_eq_some_iff.1 hg).1, fun i hi => ?_⟩⟩
    rw [Nat.zero_add, cell_of_row w g i cur 3 (0, 0) hg]
    have h1 : (zi l)[i]? = some (.int .i64 l[i]) := by simp [zi, hi]
    rw [← hc4, List.getElem?_take_of_lt (by omega), Array.getElem?_toList] at h1
    exact h1
theorem fill_cons (size : Nat → Option (Nat × Nat)) (cs : Array Value) (i o n : Nat) (v : Value) (rest : List (Nat × Value)) (h1 : size i = some (o, n)) (hn : v.cells.size = n) (h2 : o + n ≤ cs.size) :
    Instr.fill size cs ((i, v) :: rest) = Instr.fill size (v.cells.toList.zipIdx.foldl (fun cs (x : Value × Nat) => cs.setIfInBounds (o + x.2) x.1) cs) rest := by
  subst hn
  conv => lhs; unfold Instr.fill
  simp only [h1]
  rw [if_neg (by simp only [Bool.or_eq_true, decide_eq_true_eq]; omega), ← Array.foldl_toList, Array.toList_zipIdx]
theorem zip_put (off : Nat) : ∀ (l : List Value) (k : Nat) (cs : Array Value), (l.zipIdx k).foldl (fun cs (x : Value × Nat) => cs.setIfInBounds (off + x.2) x.1) cs = putA cs (off + k) l
  | [], _, _ => rfl
  | v :: l, k, cs => by
    rw [List.zipIdx_cons, List.foldl_cons, zip_put off l (k + 1)]
    rfl
theorem own_at {w : World} {B n size : Nat} {e : TypeId} {v : Value} {xs : List Value} (h : w.ownsRow B e size v n xs) (hn : 0 < n) : ∃ g cap, v = .slice (some ⟨g, 0, none⟩) n cap ∧ B ≤ g ∧ ∀ j u, xs[j]? = some u → w.cell? ⟨g, j, none⟩ = some u := by
  rcases h.2 with ⟨hv, h0⟩ | ⟨g, cap, cur, hv, hb, hg, hc, hc2, hc3, hc4⟩
  · omega
  · refine ⟨g, cap, hv, hb, fun j u hj => ?_⟩
    rw [cell_of_row w g j cur e (0, 0) hg]
    rw [← hc4] at hj
    obtain ⟨hlt, _⟩ := List.getElem?_eq_some_iff.1 hj
    simp only [List.length_take] at hlt
    rw [List.getElem?_take_of_lt (by omega), Array.getElem?_toList] at hj
    exact hj
theorem own_len {w : World} {B n size : Nat} {e : TypeId} {v : Value} {xs : List Value} (h : w.ownsRow B e size v n xs) : n ≤ maxLen := by
  rcases h.2 with ⟨hv, h0⟩ | ⟨g, cap, cur, hv, hb, hg, hc, hc2, hc3, hc4⟩
  · rw [h0]; exact Nat.zero_le _
  · exact Nat.le_trans hc hc2
end Go.Proofs.Ytpmkdpjcpimhkaa
