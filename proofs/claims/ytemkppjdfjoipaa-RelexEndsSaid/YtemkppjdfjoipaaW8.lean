/- Texts of package regs, one behind the other. -/
import Derived.Test.YtemkppjdfjoipaaProg
import Derived.Test.YtemkppjdfjoipaaW7
import Derived.Great.BuildSlice
import Derived.WalkKit
import Derived.Maps.OwnSet
import Derived.Maps.OwnOps
import Derived.Maps.Own
import Derived.DeepKeys5
import Derived.BigFrame
import Derived.WalkMore
import Derived.ScopeJumps
import Derived.StillTailTactics
import Derived.Stop.BytesEq
import Derived.WalkLawsBesides
import Derived.WalkSpells
import Derived.Outline
import Derived.Lib.Walk
import Derived.Lib.Hide
import Derived.Lib.Slices
import Derived.Lib.Strings
import Derived.RegionTactic
import Derived.LoopTactic
import Derived.Below
import Derived.IntWalk
import Derived.Deep.QuietTactic
import Derived.BigQuiet
import Derived.Deep.MidRow
import Derived.Maps.AppendAt
import Derived.Laws.Rows
import Derived.Laws.Tables
import Derived.Deep.WholeRow
import Derived.Deep.Cut
import Derived.Deep.CutRange
import Derived.Lib.SliceRun
import Derived.Laws.MakeOwn
import Derived.Deep.RegionLaw
import Derived.Deep.RegionLawGrows
import Derived.Deep.RegionHeld3
import Derived.RegionCalls
import Derived.Deep.RegionWith
import Derived.Deep.Light
import Derived.Laws.CopyOwn
import Derived.Laws.ResultCell
section
/- Package indent. -/
namespace Go.Proofs.Ytemkppjdfjoipaa.I1
set_option linter.unusedSimpArgs false
set_option linter.unusedVariables false
set_option maxRecDepth 100000
open Go.RowKit
/- Pieces in memory: arePieces, Clone. -/
abbrev Rw := Int × Int × Int
def rwC (x : Rw) : List Value := [.int .i64 x.1, .int .i64 x.2.1, .int .i64 x.2.2]
def rwL (l : List Rw) : List Value := l.flatMap rwC
theorem rwL_len (l : List Rw) : (rwL l).length = l.length * 3 := by
  induction l with
  | nil => rfl
  | cons a l ih => simp [rwL, rwC] at ih ⊢; omega
theorem rwL_get : ∀ (l : List Rw) (i : Nat) (h : i < l.length), (rwL l)[i * 3]? = some (.int .i64 l[i].1) ∧ (rwL l)[i * 3 + 1]? = some (.int .i64 l[i].2.1) ∧ (rwL l)[i * 3 + 2]? = some (.int .i64 l[i].2.2)
  | a :: l, 0, _ => ⟨rfl, rfl, rfl⟩
  | a :: l, i + 1, h => by
    have := rwL_get l i (by simpa using h)
    have e : rwL (a :: l) = rwC a ++ rwL l := rfl
    have l3 : (rwC a).length = 3 := rfl
    rw [e, List.getElem?_append_right (by rw [l3]; omega), List.getElem?_append_right (by rw [l3]; omega), List.getElem?_append_right (by rw [l3]; omega), l3, show (i + 1) * 3 - 3 = i * 3 by omega, show (i + 1) * 3 + 1 - 3 = i * 3 + 1 by omega, show (i + 1) * 3 + 2 - 3 = i * 3 + 2 by omega]
    exact this
theorem rwL_one (l : List Rw) : ∀ v ∈ rwL l, v.oneCell' = true := by
  intro v hv
  obtain ⟨t, _, ht⟩ := List.mem_flatMap.1 hv
  simp only [rwC, List.mem_cons, List.mem_nil_iff, or_false] at ht
  rcases ht with rfl | rfl | rfl <;> rfl
def RW (D : Nat → Prop) (w : World) (l : List Rw) (sl : Value) : Prop := ∃ p c, sl = .slice p l.length c ∧ (p = none → c = 0 ∧ l = []) ∧ (l ≠ [] → ∃ b o, p = some ⟨b, o, none⟩ ∧ D b ∧ ∀ j u, (rwL l)[j]? = some u → w.cell? ⟨b, o + j, none⟩ = some u)
theorem RW.mono {D E : Nat → Prop} {w w' : World} (hE : ∀ b, D b → E b) (hw : ∀ b, D b → b < w.heap.size → w'.heap[b]? = w.heap[b]?) {l : List Rw} {sl : Value} (h : RW D w l sl) : RW E w' l sl := by
  obtain ⟨p, c, rfl, h0, h⟩ := h
  refine ⟨p, c, rfl, h0, fun hn => ?_⟩
  obtain ⟨b, o, hp, hD, hc⟩ := h hn
  exact ⟨b, o, hp, hE b hD, fun j u hu => (cell_same (hw b hD (blk_lt (hc j u hu))) _).trans (hc j u hu)⟩
/-- Are they a text's? -/
def areP : Int → List Rw → Bool
  | left, [] => left == 0
  | left, r :: l => if r.2.1 < 1 ∨ left < r.2.1 then false else areP (left - r.2.1) l
set_option maxHeartbeats 8000000 in
theorem pieces_any {D : Nat → Prop} {w : World} {s : ByteArray} {l : List Rw} {p : Option Addr} {c : Nat} (hl : l.length ≤ 9223372036854775806) (hs : s.size ≤ 9223372036854775806) (hD : ∀ b, D b → b < w.heap.size) (h : RW D w l (.slice p l.length c)) :
    Calls Try.prog 25 #[.string s, .slice p l.length c] w fun e w' => e = .returned (.bool (areP (s.size : Nat) l)) ∧ Below w.heap.size w w' := by
  have HI := Lib.hid h
  have HD := Lib.hid hD
  clear h hD
  obtain ⟨R, hR⟩ : ∃ R, areP (s.size : Nat) l = R := ⟨_, rfl⟩
  rw [hR]
  have HR : Hid (areP (s.size : Nat) (l.drop 0) = R) := Lib.hid hR
  have HB0 := Lib.hid (Below.refl w.heap.size w)
  clear hR
  go_enter Try.func25, Try.ntmps25
  go_wp2_with fail
  go_loopw [5, 12] (fun x i wr => ∃ (j : Nat) (left : Int), x = .int .i64 left ∧ i = .int .i64 (j : Nat) ∧ j ≤ l.length ∧ 0 ≤ left ∧ left ≤ (s.size : Int) ∧ Hid (areP left (l.drop j) = R) ∧ Hid (Below w.heap.size w wr)) (fun _ i _ => l.length - (intOf i).toNat)
  case atStart => exact ⟨0, _, rfl, rfl, by omega, by omega, by omega, HR, HB0⟩
  case round =>
  clear HR HB0
  obtain ⟨j, left, rfl, rfl, hj, hl0, hl1, HR, HB⟩ := hrel
  by_cases hlt : j < l.length
  · have hltI : (j : Int) < (l.length : Int) := by omega
    have hjI : ¬ (j : Int) < 0 := by omega
    obtain ⟨p', c', he, -, hh⟩ := HI.out
    injection he with e1 e2 e3
    subst e1 e3
    obtain ⟨b, o, rfl, hDb, hc⟩ := hh (by intro e; rw [e] at hlt; simp at hlt)
    obtain ⟨g0, g1, g2⟩ := rwL_get l j hlt
    have hbk : wr.heap[b]? = w.heap[b]? := HB.out.block b (HD.out b hDb)
    have c0 : wr.cell? ⟨b, o + j * 3, none⟩ = some (.int .i64 l[j].1) := (cell_same hbk _).trans (hc _ _ g0)
    have c1 : wr.cell? ⟨b, o + j * 3 + 1, none⟩ = some (.int .i64 l[j].2.1) := (cell_same hbk _).trans (by rw [Nat.add_assoc]; exact hc _ _ g1)
    have c2 : wr.cell? ⟨b, o + j * 3 + 2, none⟩ = some (.int .i64 l[j].2.2) := (cell_same hbk _).trans (by rw [Nat.add_assoc]; exact hc _ _ g2)
    have HDR : Hid (l.drop j = l[j] :: l.drop (j + 1)) := Lib.hid (List.drop_eq_getElem_cons hlt)
    obtain ⟨⟨k, n, lk⟩, hx⟩ : ∃ x, l[j] = x := ⟨_, rfl⟩
    rw [hx] at c0 c1 c2 HDR
    simp only [] at c0 c1 c2
    have hbw : b < wr.heap.size := Nat.lt_of_lt_of_le (HD.out b hDb) HB.out.size
    have HSW := Lib.hid HB.out.size
    have HBN := Lib.hid (HB.out.alloc HSW.out (.cells #[.int .i64 k, .int .i64 n, .int .i64 lk] 38))
    clear hh hc g0 g1 g2 hbk hx
    have HA := Lib.hid HR.out
    rw [HDR.out] at HA
    unfold areP at HA
    simp only [] at HA
    clear HR HDR HB
    have hz26 := (zero_of_info (show (Try.prog.info? 38).map (fun i => (i.zero, i.size)) = some (some (.agg #[.int .i64 0, .int .i64 0, .int .i64 0]), 3) by kernel_rfl)).1
    by_cases h1 : n < 1
    · have HF : Hid (false = R) := Lib.hid (by rw [← HA.out, if_pos (.inl h1)])
      clear HA
      go_wp2_with fail
      go_ret
      exact ⟨vbool6 HF.out, HBN.out⟩
    · by_cases h2 : left < n
      · have HF : Hid (false = R) := Lib.hid (by rw [← HA.out, if_pos (.inr h2)])
        clear HA
        go_wp2_with fail
        go_ret
        exact ⟨vbool6 HF.out, HBN.out⟩
      · have HN : Hid (areP (left - n) (l.drop (j + 1)) = R) := Lib.hid (by rw [← HA.out, if_neg (fun h => h.elim h1 h2)])
        have hw : IntKind.i64.wrap (left - n) = left - n := IntWalk.i64_in (left - n) (by omega)
        clear HA
        go_wp2_with fail
        go_roundw
        case rel => exact ⟨j + 1, _, rfl, by go_num, by omega, by omega, by omega, HN, HBN⟩
        case measure => simp [intOf]; omega
  · obtain rfl : j = l.length := by omega
    have hltI : ¬ (l.length : Int) < (l.length : Int) := by omega
    have HF : Hid ((left == 0) = R) := Lib.hid (by rw [← HR.out, List.drop_length]; rfl)
    go_wp2_with fail
    go_ret
    exact ⟨vbool6 HF.out, HB.out⟩
theorem info26z : (Try.prog.info? 38).map (fun i => (i.zero, i.size, i.bytes)) = some (some (.agg #[.int .i64 0, .int .i64 0, .int .i64 0]), 3, 24) := by kernel_rfl
theorem eq_nil42 (a : Addr) (n c : Nat) (w : World) : Sem.run Try.prog (binOp BinOp.eql 22 (.slice (some a) n c) (.slice none 0 0)) w = .ok (.bool false) w := by kernel_rfl
theorem eq_nil42n (w : World) : Sem.run Try.prog (binOp BinOp.eql 22 (.slice none 0 0) (.slice none 0 0)) w = .ok (.bool true) w := by kernel_rfl
abbrev rR (v : Value) (l : List Rw) : It := .row v 38 3 l.length (rwL l)
set_option maxHeartbeats 8000000 in
theorem cloneR_any {D : Nat → Prop} {w : World} {l : List Rw} {p : Option Addr} {c : Nat} (hl : l.length ≤ 1000000) (hD : ∀ b, D b → b < w.heap.size) (h : RW D w l (.slice p l.length c)) :
    Calls Try.prog 27 #[.slice p l.length c] w fun e w' => ∃ v, e = .returned v ∧ w'.ownsRow w.heap.size 38 3 v l.length (rwL l) ∧ Below w.heap.size w w' := by
  obtain ⟨i0, hi, hz0, hz1, hz2⟩ := info_parts info26z
  obtain ⟨p', c', he, hn, hh⟩ := h
  injection he with e1 e2 e3
  subst e1 e3
  clear e2
  cases p with
  | none =>
    obtain ⟨rfl, rfl⟩ := hn rfl
    have S0 := Lib.hid (Below.refl w.heap.size w)
    clear hh hD hl hn
    go_enter Try.func27, Try.ntmps27
    go_wp2_with (rw [eq_nil42n])
    go_ret
    exact ⟨_, rfl, ⟨by simp [rwL], .inl ⟨rfl, rfl⟩⟩, S0.out⟩
  | some a =>
  have hw0 := (Below.refl w.heap.size w).alloc (Nat.le_refl _) (.cells #[] 38)
  have HO0 : Hid ((w.alloc (.cells #[] 38)).ownsRow w.heap.size 38 3 (.slice (some ⟨w.heap.size, 0, none⟩) 0 0) 0 []) := Lib.hid ⟨by simp, .inr ⟨w.heap.size, 0, #[], rfl, Nat.le_refl _, heap_alloc_new _ _, Nat.le_refl _, by simp [maxLen], by simp, by simp⟩⟩
  have S0 := Lib.hid hw0
  have HSZ : Hid ((w.alloc (.cells #[] 38)).heap.size = w.heap.size + 1) := Lib.hid (by simp)
  by_cases hne : l = []
  · subst hne
    clear hh hD hl hn hw0 HSZ
    go_enter Try.func27, Try.ntmps27
    go_wp2_with (first | rw [eq_nil42] | (at_builtin; refine wpList_append_zero _ rfl (.tmp 5) (.tmp 6) 22 rfl 38 i0 Try.underlying22 hi ⟨w.heap.size, 0, none⟩ 0 0 rfl (some a) c rfl (Nat.le_refl _) ?_))
    go_wp2_with fail
    go_ret
    exact ⟨_, rfl, HO0.out, S0.out⟩
  · obtain ⟨b, o, hp, hDb, hc⟩ := hh hne
    injection hp with hp
    subst hp
    have hbw := hD b hDb
    have HC : Hid (∀ j v, (rwL l)[j]? = some v → (w.alloc (.cells #[] 38)).cell? ((⟨b, o, none⟩ : Addr).add j) = some v) := Lib.hid fun j v hj => by
      rw [Addr.add_mid, cell_same (hw0.block b hbw)]; exact hc j v hj
    have HZL : Hid ((rwL l).length = l.length * 3) := Lib.hid (rwL_len l)
    have HL := Lib.hid hl
    clear hh hc hw0 hD hn
    go_enter Try.func27, Try.ntmps27
    go_wp2_with (first | rw [eq_nil42] | (at_builtin; refine wpList_append_own_at _ rfl (.tmp 5) (.tmp 6) 22 rfl w.heap.size 38 i0 _ 3 24 Try.underlying22 hi hz0 hz1 hz2 rfl (by decide) (.slice (some ⟨w.heap.size, 0, none⟩) 0 0) 0 [] rfl ?c0 ⟨b, o, none⟩ l.length c (rwL l) rfl HZL.out ?c1 (rwL_one l) ?c3 ?c4 ?c5 ?_))
    case c0 => exact HO0.out
    case c1 => exact HC.out
    case c3 => have := HL.out; unfold maxLen; omega
    case c4 => have := HL.out; omega
    case c5 => have := HSZ.out; omega
    intro v1 w1 hown1 hg1 _ _
    have H1 : Hid (w1.ownsRow w.heap.size 38 3 v1 l.length (rwL l)) := Lib.hid (by simpa using hown1)
    have L1 : Hid (Below w.heap.size w w1) := Lib.hid (below_grown S0.out hg1 (fun g hg => (World.ownsRow.lt HO0.out g hg).1) (by have := HSZ.out; omega))
    clear hown1 hg1 HO0 S0 HSZ HC HZL
    go_wp2_with fail
    go_ret
    exact ⟨_, rfl, H1.out, L1.out⟩
end Go.Proofs.Ytemkppjdfjoipaa.I1
end
section
/- Package indent. -/
namespace Go.Proofs.Ytemkppjdfjoipaa.I1
set_option linter.unusedSimpArgs false
set_option linter.unusedVariables false
set_option maxRecDepth 100000
open Go.RowKit
/- All: plain, and its lists. -/
structure Lx where
  marks : List Mk
  counts : List Int
  toks : List Tk
def runF (x : Lx) (m : Mk) (s : List Nat) : List Rw → Lx × Mk
  | [] => (x, m)
  | r :: l => runF ⟨x.marks ++ [(stepF m (s.take r.2.1.toNat) r.1 r.2.1).1], x.counts ++ [((x.toks ++ (stepF m (s.take r.2.1.toNat) r.1 r.2.1).2).length : Int)], x.toks ++ (stepF m (s.take r.2.1.toNat) r.1 r.2.1).2⟩ (stepF m (s.take r.2.1.toNat) r.1 r.2.1).1 (s.drop r.2.1.toNat) l
def allR (s : List Nat) (l : List Rw) : Lx × Mk := runF ⟨[m0], [0], []⟩ m0 s l
/-- Pieces, marks, counts, tokens; the error. -/
def allQ (s : ByteArray) (l : List Rw) : (List Rw × Lx) × Int :=
  if 65536 < s.size then (([], ⟨[], [], []⟩), 3)
  else if areP (s.size : Nat) l = false then (([], ⟨[], [], []⟩), 2)
  else ((l, ⟨(allR (bl s) l).1.marks, (allR (bl s) l).1.counts, (allR (bl s) l).1.toks ++ endF (allR (bl s) l).2⟩), 0)
theorem stepF_lead {m : Mk} {s : List Nat} {k n : Int} (h0 : 0 ≤ m.lead) (hn : 0 ≤ n) : (stepF m s k n).1.lead ≤ m.lead + n := by
  unfold stepF tokF
  split
  · simp only []; omega
  · split
    · simp only []; omega
    · split
      · split <;> simp only [] <;> omega
      · split <;> simp only [] <;> omega
theorem areP_pos {left : Int} {r : Rw} {l : List Rw} (h : areP left (r :: l) = true) : 1 ≤ r.2.1 ∧ r.2.1 ≤ left ∧ areP (left - r.2.1) l = true := by
  unfold areP at h
  split at h
  · cases h
  · rename_i h2
    exact ⟨by omega, by omega, h⟩
/-- Marks, in a row. -/
def mkL (vs : List Value) (ms : List Mk) : List Value := (List.zipWith mkA vs ms).flatMap Array.toList
def colsI (vs : List Value) (ms : List Mk) : List It := List.zipWith (fun v m => rI v m.cols) vs ms
abbrev rM (v : Value) (vs : List Value) (ms : List Mk) : It := .row v 36 5 ms.length (mkL vs ms)
theorem mkL_app {vs vs' : List Value} {ms ms' : List Mk} (h : vs.length = ms.length) : mkL (vs ++ vs') (ms ++ ms') = mkL vs ms ++ mkL vs' ms' := by
  unfold mkL; rw [List.zipWith_append h, List.flatMap_append]
theorem colsI_app {vs vs' : List Value} {ms ms' : List Mk} (h : vs.length = ms.length) : colsI (vs ++ vs') (ms ++ ms') = colsI vs ms ++ colsI vs' ms' := by
  unfold colsI; rw [List.zipWith_append h]
theorem mkL_len : ∀ {vs : List Value} {ms : List Mk}, vs.length = ms.length → (mkL vs ms).length = ms.length * 5
  | [], [], _ => rfl
  | v :: vs, m :: ms, h => by
    have := mkL_len (vs := vs) (ms := ms) (by simpa using h)
    unfold mkL at this ⊢
    rw [List.zipWith_cons_cons, List.flatMap_cons, List.length_append, this]
    simp [mkA]; omega
theorem info24z : (Try.prog.info? 36).map (fun i => (i.zero, i.size, i.bytes)) = some (some (.agg #[.slice none 0 0, .int .i64 0, .int .i64 0, .bool false, .int .i64 0]), 5, 56) := by kernel_rfl
theorem run_append_none {P : Program} (w : World) (t ty e : TypeId) (i : TypeInfo) (ht : P.underlying t = some (.slice e)) (hi : P.info? e = some i) (q : Option Addr) (c' : Nat) :
    Sem.run P (Builtin.append_ #[t, t] ty #[.slice none 0 0, .slice q 0 c']) w = .ok (.slice none 0 0) w := by
  cases q <;> simp [Builtin.append_, underlying, ht, hi, Go.sizeOf, Go.typeInfo, Builtin.firstCells, storeCells, go_sem]
section
variable {w w0 : World} {B : Nat} {L : List It} {ops : Array Oper} {rest : List Oper} {o : Oper} {a : Act} {Q : Exit → Act → World → Prop}
/-- The tokens of a list behind those of another one. -/
theorem wp_appTT {l news : List Tk} (v t : Value) (hgd : o.guard = none) (s x : Operand) (ho : o.op = .call { callee := .builtin .append, args := #[s, x], argTypes := #[26, 26] })
    (hs : a.eval s = v) (hx : a.eval x = t) (hS : Sep B w0 w (rT v l :: L)) (ht : w.ownsRow B 40 3 t news.length (tkL news))
    (hlen : l.length + news.length ≤ 1000000000000) (h : ∀ v' w', Sep B w0 w' (rT v' (l ++ news) :: L) → wpList Try.prog ops Q rest (a.put o.dst v') w') : wpList Try.prog ops Q (o :: rest) a w := by
  by_cases hn : news = []
  · subst hn
    obtain ⟨i1, hi1, hy0, hy1, hy2⟩ := info_parts info35
    obtain ⟨q, c, rfl⟩ := row_form ht
    have h1 := h v w (by rw [List.append_nil]; exact hS)
    have hat : w.ownsRow B 40 3 v l.length (tkL l) := hS.at
    have key : Sem.run Try.prog (Builtin.append_ #[26, 26] o.type #[v, .slice q 0 c]) w = .ok v w := by
      rcases hat.2 with ⟨e, _⟩ | ⟨g, cap, cur, e, _, _, hc, _⟩
      · rw [e]; exact run_append_none w 26 o.type 40 i1 Try.underlying26 hi1 q c
      · rw [e]; exact run_append_zero w 26 o.type 40 i1 Try.underlying26 hi1 _ _ _ q c hc
    refine wpList_plain hgd fun K hK => ?_
    unfold Oper.wp execOp
    simp only [ho, resolve, invoke, builtin, Sem.run_bind, Sem.run_pure, Result.andThen_ok, List.map_toArray, List.map_cons, List.map_nil, hs, hx, List.length_nil, key]
    exact hK _ _ h1
  · have hpos : 0 < news.length := List.length_pos_iff.2 hn
    obtain ⟨g, cap, rfl, hcap⟩ := row_own ht hpos
    exact wp_appT v hgd s x ho hs hS ⟨g, 0, none⟩ cap news hx (fun j u hu => ht.cells (g := g) rfl j u hu) hlen h
theorem wp_appM {vs : List Value} {ms : List Mk} (v : Value) (hvs : vs.length = ms.length) (hgd : o.guard = none) (s x : Operand) (ho : o.op = .call { callee := .builtin .append, args := #[s, x], argTypes := #[24, 24] })
    (hs : a.eval s = v) (hS : Sep B w0 w (rM v vs ms :: L)) (b : Nat) (p : Option Addr) (n c : Nat) (m : Mk) (hx : a.eval x = .slice (some ⟨b, 0, none⟩) 1 1) (hb : ∀ j, w.cell? ⟨b, j, none⟩ = (mkA (.slice p n c) m)[j]?)
    (hlen : ms.length ≤ 1000000000) (h : ∀ v' w', Sep B w0 w' (rM v' (vs ++ [.slice p n c]) (ms ++ [m]) :: L) → wpList Try.prog ops Q rest (a.put o.dst v') w') : wpList Try.prog ops Q (o :: rest) a w := by
  obtain ⟨i1, hi1, hy0, hy1, hy2⟩ := info_parts info24z
  have e1 : mkL [.slice p n c] [m] = (mkA (.slice p n c) m).toList := by simp [mkL]
  refine wpList_append_own_at w hgd s x 24 ho B 36 i1 _ 5 56 Try.underlying24 hi1 hy0 hy1 hy2 rfl (by decide) v ms.length (mkL vs ms) hs hS.at ⟨b, 0, none⟩ 1 1 (mkL [.slice p n c] [m]) hx (by rw [e1]; rfl) (news_of hb e1.symm) (fun u hu => ?_) (by unfold maxLen; omega) (by omega) hS.sz fun v' w' hown hg _ hat => h v' w' ?_
  · rw [e1] at hu
    simp only [mkA, List.mem_cons, List.mem_nil_iff, or_false] at hu
    rcases hu with rfl | rfl | rfl | rfl | rfl <;> rfl
  · have := hS.app hown hg hat
    rw [← mkL_app hvs] at this
    rw [rM, List.length_append]
    exact this
end
/-- What comes back of All. -/
def AllP (B : Nat) (w0 : World) (X : List It) (Q : (List Rw × Lx) × Int) (e : Ending) (w' : World) : Prop := ∃ v1 v2 v3 v4 vs, e = .returned (.tuple #[.agg #[v1, v2, v3, v4], .int .i64 Q.2]) ∧ vs.length = Q.1.2.marks.length ∧ Sep B w0 w' (rR v1 Q.1.1 :: rM v2 vs Q.1.2.marks :: rI v3 Q.1.2.counts :: rT v4 Q.1.2.toks :: (colsI vs Q.1.2.marks ++ X))
def zL : Array Value := #[.slice none 0 0, .slice none 0 0, .slice none 0 0, .slice none 0 0]
abbrev bxL (b : Nat) (cs : Array Value) : It := .box b (.cells cs 28 (0, 0))
theorem info46 : (Try.prog.info? 28).map (·.size) = some 4 := by kernel_rfl
theorem zero46 : ∀ w, (zeroValue 28).run Try.prog w = .ok (.agg #[.slice none 0 0, .slice none 0 0, .slice none 0 0, .slice none 0 0]) w := (zero_of_info (show (Try.prog.info? 28).map (fun i => (i.zero, i.size)) = some (some (.agg #[.slice none 0 0, .slice none 0 0, .slice none 0 0, .slice none 0 0]), 4) by kernel_rfl)).1
theorem zero26 : ∀ w, (zeroValue 38).run Try.prog w = .ok (.agg #[.int .i64 0, .int .i64 0, .int .i64 0]) w := (zero_of_info (show (Try.prog.info? 38).map (fun i => (i.zero, i.size)) = some (some (.agg #[.int .i64 0, .int .i64 0, .int .i64 0]), 3) by kernel_rfl)).1
theorem results_lt {fn : Func} {p u : Tmp} (h : fn.results = #[.cell p 28, .tmp u]) (tmps : Array Value) (w : World) (g : Nat) (cs : Array Value)
    (hp : tmps.getD p undef = .pointer (some ⟨g, 0, none⟩)) (hg : w.heap[g]? = some (.cells cs 28 (0, 0))) (hs : cs.size = 4) :
    (results fn tmps).run Try.prog w = .ok (.tuple #[.agg cs, tmps.getD u undef]) w := by
  have hl := run_loadVar_row (P := Try.prog) w g 28 28 _ (0, 0) _ hg Try.underlying28 rfl (by rw [info46, hs])
  rw [results_cell_tmp h, hp]
  simp [asAddr, hl, Result.andThen]
/-- What lies, seen from here. -/
theorem Sep.rebase {B : Nat} {w0 w : World} {L : List It} (h : Sep B w0 w L) : Sep B w w L := ⟨Below.refl _ _, h.sz, h.li, h.ap⟩
theorem Sep.onto {B : Nat} {w0 w w' : World} {L M : List It} (h : Sep B w0 w L) (h2 : Sep B w w' M) : Sep B w0 w' M := ⟨h.bel.trans h2.bel, h2.sz, h2.li, h2.ap⟩
end Go.Proofs.Ytemkppjdfjoipaa.I1
end
