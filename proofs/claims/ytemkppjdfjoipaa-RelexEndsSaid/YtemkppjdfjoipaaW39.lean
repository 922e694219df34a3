/- Texts of package regs, one behind the other. -/
import Derived.Test.YtemkppjdfjoipaaProg
import Derived.Test.YtemkppjdfjoipaaW36
import Derived.Test.YtemkppjdfjoipaaW38
import Derived.Test.YtemkppjdfjoipaaW34
import Derived.Test.YtemkppjdfjoipaaXe
import Derived.Test.YtemkppjdfjoipaaXf
import Derived.Deep.SlicePairs
import Derived.Deep.Slices
import Derived.Laws.IdiomArrays
import Derived.OpenShut
import Derived.WideBlind
import Derived.Great.BuildSlice
import Derived.WalkKit
import Derived.Maps.OwnSet
import Derived.Maps.OwnOps
import Derived.Maps.Own
import Derived.DeepKeys5
import Derived.BigFrame
import Derived.WalkMore
import Derived.ScopeJumps
import Derived.StillTailTactics
import Derived.Stop.BytesEq
import Derived.WalkLawsBesides
import Derived.WalkSpells
import Derived.Outline
import Derived.Lib.Walk
import Derived.Lib.Hide
import Derived.Lib.Slices
import Derived.Lib.Strings
import Derived.RegionTactic
import Derived.LoopTactic
import Derived.Below
import Derived.IntWalk
import Derived.Deep.QuietTactic
import Derived.BigQuiet
import Derived.Deep.MidRow
import Derived.Maps.AppendAt
import Derived.Laws.Rows
import Derived.Laws.Tables
import Derived.Deep.WholeRow
import Derived.Deep.Cut
import Derived.Deep.CutRange
import Derived.Lib.SliceRun
import Derived.Laws.MakeOwn
import Derived.Deep.RegionLaw
import Derived.Deep.RegionLawGrows
import Derived.Deep.RegionHeld3
import Derived.RegionCalls
import Derived.Deep.RegionWith
import Derived.Deep.Light
import Derived.Laws.CopyOwn
import Derived.Laws.ResultCell
section
/- Edit, plain -/
namespace Go.Proofs.Ytemkppjdfjoipaa.I1.X
set_option linter.unusedSimpArgs false
set_option linter.unusedVariables false
set_option maxRecDepth 100000
open Go.RowKit
/- Edit, plain. -/
theorem zero51 : ∀ w, (zeroValue 51).run Try.prog w = .ok (.agg #[.slice none 0 0, .slice none 0 0, .slice none 0 0, .slice none 0 0, .int .i64 0, .int .i64 0, .int .i64 0]) w := (zero_of_info (show (Try.prog.info? 51).map (fun i => (i.zero, i.size)) = some (some (.agg #[.slice none 0 0, .slice none 0 0, .slice none 0 0, .slice none 0 0, .int .i64 0, .int .i64 0, .int .i64 0]), 7) by kernel_rfl)).1
theorem info51 : (Try.prog.info? 51).map (·.size) = some 7 := by kernel_rfl
open Go.Proofs.Ytemkppjdfjoipaa.Ed (checkZ apS withinB ed) in
theorem ed_of {s x : ByteArray} {st en : Int} (hs : s.size ≤ 65536) (h : checkZ s.size st en x = 0) : ∃ a b : Nat, st = (a : Int) ∧ en = (b : Int) ∧ apS s st en x = Ed.splice s a b x ∧ Ed1 (bl s) (bl (Ed.splice s a b x)) a b x.size ∧ (Ed.splice s a b x).size ≤ 65536 := by
  have h0 := h
  unfold checkZ at h
  split at h
  · simp at h
  · split at h
    · simp at h
    · split at h
      · simp at h
      · rename_i h1 h2 h3
        unfold withinB at h2
        simp only [Bool.not_eq_false, Bool.and_eq_true, decide_eq_true_eq] at h2
        obtain ⟨a, rfl⟩ : ∃ a : Nat, st = (a : Int) := ⟨st.toNat, by omega⟩
        obtain ⟨b, rfl⟩ : ∃ b : Nat, en = (b : Int) := ⟨en.toNat, by omega⟩
        have hbs : bl (Ed.splice s a b x) = (bl s).take a ++ bl x ++ (bl s).drop b := by
          unfold bl Ed.splice
          simp only [List.map_append, List.map_take, List.map_drop]
        have hl : (bl (Ed.splice s a b x)).length = (Ed.splice s a b x).size := bl_len _
        have hab : a ≤ b := by omega
        have hb : b ≤ s.size := by omega
        have hlen : (bl (Ed.splice s a b x)).length = s.size - (b - a) + x.size := by
          rw [hbs, List.length_append, List.length_append, List.length_take, List.length_drop, bl_len, bl_len]
          omega
        refine ⟨a, b, rfl, rfl, ?_, ⟨hab, by rw [bl_len]; exact hb, by rw [hlen, bl_len], ?_, fun j => ?_⟩, by omega⟩
        · unfold apS; rw [if_pos h0]; rfl
        · rw [hbs, List.append_assoc, List.take_left' (by rw [List.length_take, bl_len]; omega)]
        · have e1 : ((bl s).take a ++ bl x).length = a + x.size := by rw [List.length_append, List.length_take, bl_len, bl_len]; omega
          have e2 : (bl (Ed.splice s a b x)).drop (a + x.size) = (bl s).drop b := by rw [hbs]; exact List.drop_left' e1
          have e3 := List.drop_drop (i := j) (j := a + x.size) (l := bl (Ed.splice s a b x))
          rw [e2, List.drop_drop] at e3
          exact e3.symm
/-- What Edit answers. -/
abbrev cpI (q1 q3 q4 : Option Addr) (e1 e3 e4 bT bR : Nat) (L : List P3) (x : Lx) (X : List It) : List It := .row (.slice q4 x.toks.length e4) 40 3 x.toks.length (tkL x.toks) :: .row (.slice q3 x.counts.length e3) 3 1 x.counts.length (zi x.counts) :: .box bT (.cells (csT (vsR bR 0 x.marks) x.marks) 36 (0, 0)) :: .box bR (.cells (zi (zcols x.marks)).toArray 3 (0, 0)) :: .row (.slice q1 L.length e1) 38 3 L.length (rwL (L.map tR)) :: X
abbrev cpV (q1 q3 q4 : Option Addr) (e1 e3 e4 bT : Nat) (L : List P3) (x : Lx) : Value := .agg #[.slice q1 L.length e1, .slice (some ⟨bT, 0, none⟩) x.marks.length x.marks.length, .slice q3 x.counts.length e3, .slice q4 x.toks.length e4]
abbrev rlV (q1 q3 q4 : Option Addr) (e1 e3 e4 bT : Nat) (L : List P3) (x : Lx) (a b c : Int) : Array Value := #[.slice q1 L.length e1, .slice (some ⟨bT, 0, none⟩) x.marks.length x.marks.length, .slice q3 x.counts.length e3, .slice q4 x.toks.length e4, .int .i64 a, .int .i64 b, .int .i64 c]
abbrev zR7 : Array Value := #[.slice none 0 0, .slice none 0 0, .slice none 0 0, .slice none 0 0, .int .i64 0, .int .i64 0, .int .i64 0]
/-- copied, with the slices' forms. -/
def CqP (w0 : World) (B : Nat) (X : List It) (L : List P3) (x : Lx) (e : Ending) (w' : World) : Prop :=
  ∃ q1 q3 q4 e1 e3 e4 bT bR, e = .returned (cpV q1 q3 q4 e1 e3 e4 bT L x) ∧ Sep B w0 w' (cpI q1 q3 q4 e1 e3 e4 bT bR L x X)
theorem CpP.cq {w0 : World} {B : Nat} {X : List It} {L : List P3} {x : Lx} {e : Ending} {w' : World} (h : CpP w0 B X L x L.length x.marks.length x.counts.length x.toks.length e w') : CqP w0 B X L x e w' := by
  obtain ⟨v1, bT, bR, v3, v4, rfl, hs⟩ := h
  obtain ⟨q4, e4, rfl⟩ := row_form hs.at
  obtain ⟨q3, e3, rfl⟩ := row_form hs.tl.at
  obtain ⟨q1, e1, rfl⟩ := row_form hs.tl.tl.tl.tl.at
  exact ⟨q1, q3, q4, e1, e3, e4, bT, bR, rfl, hs⟩
/-- Edit where nothing is refused. -/
structure EdR (w : World) (d : Df) (kl : List Int) (s t : ByteArray) (st en be bq : Nat) (q1 q3 q4 : Option Addr) (e1 e3 e4 bT bR : Nat) (cnt : Int) (w' : World) : Prop where
  sc : ScV w'.heap.size w' bq d kl t
  ct : Cnt (scL d kl s) (scL d kl t) (bl s) (bl t) st en be cnt
  sp : Sep w.heap.size w w' (cpI q1 q3 q4 e1 e3 e4 bT bR (scL d kl t) (scX d kl t) [])
def EdQ (w : World) (d : Df) (kl : List Int) (s t : ByteArray) (st en be : Nat) (e : Ending) (w' : World) : Prop :=
  ∃ bq q1 q3 q4 e1 e3 e4 bT bR cnt, e = .returned (.tuple #[.pointer (some ⟨bq, 0, none⟩), .agg (rlV q1 q3 q4 e1 e3 e4 bT (scL d kl t) (scX d kl t) ((cpre (scX d kl s).toks (scX d kl t).toks : Nat) : Int) ((csuf (scX d kl s).toks (scX d kl t).toks : Nat) : Int) cnt), .int .i64 0]) ∧ EdR w d kl s t st en be bq q1 q3 q4 e1 e3 e4 bT bR cnt w'
theorem results_tct {fn : Func} {u p v : Tmp} (h : fn.results = #[.tmp u, .cell p 51, .tmp v]) (tmps : Array Value) (w : World) (g : Nat) (cs : Array Value)
    (hp : tmps.getD p undef = .pointer (some ⟨g, 0, none⟩)) (hg : w.heap[g]? = some (.cells cs 51 (0, 0))) (hs : cs.size = 7) :
    (results fn tmps).run Try.prog w = .ok (.tuple #[tmps.getD u undef, .agg cs, tmps.getD v undef]) w := by
  have hl := run_loadVar_row (P := Try.prog) w g 51 51 _ (0, 0) _ hg Try.underlying51 rfl (by rw [info51, hs])
  have hp2 : tmps[p]?.getD undef = .pointer (some ⟨g, 0, none⟩) := by simpa using hp
  simp only [results, h]
  simp [Sem.run_bind, Result.andThen, hp2, asAddr, hl]
theorem wv_drop {D : Nat → Prop} {w : World} {l : List Tk} {p : Option Addr} {n c k : Nat} (h : WV D w l (.slice p n c)) (hk : k ≤ n) (hc : n ≤ c) {pa : Option Addr} (hpa : (if c = k then p else p.map (fun a => a.add (k * 3))) = pa) : WV D w (l.drop k) (.slice pa (n - k) (c - k)) := by
  obtain ⟨p', c', he, hh⟩ := h
  injection he with e1 e2 e3
  subst e1 e2 e3
  refine ⟨pa, c - k, by rw [List.length_drop], fun hn => ?_⟩
  have hl : k < l.length := by
    rcases Nat.lt_or_ge k l.length with h | h
    · exact h
    · exact absurd (List.drop_eq_nil_of_le h) hn
  obtain ⟨b, o, rfl, hD, hcl⟩ := hh (by intro e; rw [e] at hl; simp at hl)
  rw [if_neg (by omega)] at hpa
  subst hpa
  refine ⟨b, o + k * 3, by simp [Addr.add_mid], hD, fun i hi => ?_⟩
  rw [List.length_drop] at hi
  have h9 := hcl (k + i) (by omega)
  rw [List.getElem_drop]
  simpa only [Nat.add_mul, Nat.add_assoc] using h9
theorem run_slice26 (p : Option Addr) (n c k : Nat) (hk : k ≤ n) (hn : n ≤ c) (w : World) {pa : Option Addr} (hpa : (if c = k then p else p.map (fun a => a.add (k * 3))) = pa) : (Instr.slice 26 (.slice p n c) (some (.int .i64 (k : Nat))) none none).run Try.prog w = .ok (.slice pa (n - k) (c - k)) w := by
  have hu : Try.prog.underlying 26 = some (.slice 40) := Try.underlying26
  have hi : (Try.prog.info? 40).map (·.size) = some 3 := by kernel_rfl
  obtain ⟨i, hi1, hi2⟩ := Option.map_eq_some_iff.1 hi
  subst hpa
  have h1 : (0 : Int) ≤ (k : Int) ∧ (k : Int) ≤ (n : Int) := by omega
  simp [Instr.slice, Instr.sliceBounds, Instr.sliceBound, run_underlying hu, Sem.run_bind, asIntOf, Result.andThen, sizeOf, typeInfo, hi1, hi2, h1, hk]
theorem csuf_eq (l r : List Tk) : csuf l r = cpre (l.drop (cpre l r)).reverse (r.drop (cpre l r)).reverse := rfl
theorem cpre_len (l r : List Tk) : cpre l r ≤ l.length ∧ cpre l r ≤ r.length := cpre_le l r
end Go.Proofs.Ytemkppjdfjoipaa.I1.X
end
section
/- Edit -/
namespace Go.Proofs.Ytemkppjdfjoipaa.I1.X
set_option linter.unusedSimpArgs false
set_option linter.unusedVariables false
set_option maxRecDepth 100000
open Go.RowKit
/- Edit. -/
set_option maxHeartbeats 8000000 in
theorem edit_err {N : Nat} {w : World} {b : Nat} {d : Df} {kl : List Int} {s x : ByteArray} {st en E : Int} (hsc : ScV N w b d kl s) (hf : s.size ≤ 65536) (hx : x.size ≤ 9223372036854775807) (hE : Ed.checkZ s.size st en x = E) (hne : E ≠ 0) :
    Calls Try.prog 16 #[.pointer (some ⟨b, 0, none⟩), Ed.ed st en x] w fun e w' => e = .returned (.tuple #[.pointer none, .agg zR7, .int .i64 E]) ∧ Below w.heap.size w w' := by
  obtain ⟨t, ht⟩ : ∃ t, Ed.apS s st en x = t := ⟨_, rfl⟩
  have HAP : Hid (∀ z, Calls Try.prog 38 #[.string s, .agg #[.int .i64 st, .int .i64 en, .string x]] z fun r w' => r = .returned (.tuple #[.string t, .int .i64 E]) ∧ Below z.heap.size z w') := Lib.hid fun z => by
    have e := Ed.apply_any s st en x z hx (by omega)
    rw [ht, hE] at e
    exact e
  have hE0 : (E != 0) = true := by simp [hne]
  clear hE ht
  have hz := zero51
  have hz28 := zero28
  obtain ⟨b3, hb3⟩ : ∃ b, w.heap.size = b := ⟨_, rfl⟩
  have S0 := (Sep.start w).allocAt hb3 (.cells #[.int .i64 st, .int .i64 en, .string x] 45)
  have S0 := S0.allocAt (b := b3 + 1) (by simp [hb3]) (.cells zR7 51)
  obtain ⟨b5, hb5⟩ : ∃ b, b3 + 1 = b := ⟨_, rfl⟩
  rw [hb5] at S0
  have S0 := Lib.hid S0
  obtain ⟨bs, p1, p2, p3, p4, c1, c2, c3, c4, hs0⟩ := hsc
  have HSC := Lib.hid hs0
  have hNw := hs0.nw
  have hbN := hs0.bn
  have k0 := hs0.k0
  have k1 := hs0.k1
  have HCELL : Hid (∀ z, Below w.heap.size w z → ∀ g, g < N → ∀ o v, w.cell? ⟨g, o, none⟩ = some v → z.cell? ⟨g, o, none⟩ = some v) := Lib.hid fun z hz g hg o v h => (cell_same (hz.block g (Nat.lt_of_lt_of_le hg hNw)) _).trans h
  have HC01 := Lib.hid (And.intro k0 k1)
  clear hs0 k0 k1
  unfold Ed.ed
  go_enter Try.func16, Try.ntmps16
  go_upto_region 1 with fail
  refine at_world (fun y => Sep w.heap.size w y [.box b5 (.cells zR7 51 (0, 0)), .box b3 (.cells #[.int .i64 st, .int .i64 en, .string x] 45 (0, 0))]) S0.out fun y hy => ?_
  have HTH := Lib.hid (there_any (HCELL.out y hy.bel b hbN _ _ HC01.out.1))
  have S1 := Lib.hid hy
  clear hy S0 hb3 hb5
  go_wp2_with fail
  refine HTH.out.mono ?_
  rintro _ y1 ⟨rfl, rfl⟩
  go_upto_region 3 with fail
  have HS0 : Hid ((fun z => Sep w.heap.size w z [.box b5 (.cells zR7 51 (0, 0)), .box b3 (.cells #[.int .i64 st, .int .i64 en, .string x] 45 (0, 0))]) y1.drew) := Lib.hid S1.out.drew
  refine wp_region_held_drew (S := fun z => Sep w.heap.size w z [.box b5 (.cells zR7 51 (0, 0)), .box b3 (.cells #[.int .i64 st, .int .i64 en, .string x] 45 (0, 0))]) (by kernel_rfl) HS0.out (fun hHeld => ?_)
  refine wpAnyH_take (i := 0) (v := .pointer (some ⟨b, 0, none⟩)) rfl (by kernel_rfl) (by kernel_rfl) (by kernel_rfl) (fun _ _ _ h => h) (Or.inl ⟨by rfl, by (intro w hSw; (try dsimp only at hSw); go_simp)⟩) hHeld ?_
  (try simp only [Act.put, List.getElem_toArray, List.getElem_cons_zero, List.getElem_cons_succ, List.setIfInBounds_toArray, List.set_cons_zero, List.set_cons_succ])
  refine wpAnyH_take (i := 1) (v := .pointer (some ⟨b, 0, none⟩)) rfl (by kernel_rfl) (by kernel_rfl) (by kernel_rfl) (fun _ _ _ h => h) (Or.inl ⟨by rfl, by (intro w hSw; (try dsimp only at hSw); go_simp)⟩) hHeld ?_
  (try simp only [Act.put, List.getElem_toArray, List.getElem_cons_zero, List.getElem_cons_succ, List.setIfInBounds_toArray, List.set_cons_zero, List.set_cons_succ])
  refine wpAnyH_take (i := 2) (v := .pointer (some ⟨b, 1, none⟩)) rfl (by kernel_rfl) (by kernel_rfl) (by kernel_rfl) (fun _ _ _ h => h) (Or.inl ⟨by rfl, by (intro w hSw; (try dsimp only at hSw); go_simp)⟩) hHeld ?_
  (try simp only [Act.put, List.getElem_toArray, List.getElem_cons_zero, List.getElem_cons_succ, List.setIfInBounds_toArray, List.set_cons_zero, List.set_cons_succ])
  refine wpAnyH_take (i := 3) (v := .string s) rfl (by kernel_rfl) (by kernel_rfl) (by kernel_rfl) (fun _ _ _ h => h) (Or.inl ⟨by rfl, (by intro w9 hSw; (try dsimp only at hSw); have c1 := HCELL.out w9 hSw.bel b hbN _ _ HC01.out.2; go_simp)⟩) hHeld ?_
  (try simp only [Act.put, List.getElem_toArray, List.getElem_cons_zero, List.getElem_cons_succ, List.setIfInBounds_toArray, List.set_cons_zero, List.set_cons_succ])
  refine wpAnyH_take (i := 4) (v := .agg #[.int .i64 st, .int .i64 en, .string x]) rfl (by kernel_rfl) (by kernel_rfl) (by kernel_rfl) (fun _ _ _ h => h) (Or.inl ⟨by rfl, (by intro w9 hSw; (try dsimp only at hSw); have c0 : w9.cell? ⟨b3, 0, none⟩ = some (.int .i64 st) := hSw.tl.boxAt 0; have c1 : w9.cell? ⟨b3, 1, none⟩ = some (.int .i64 en) := hSw.tl.boxAt 1; have c2 : w9.cell? ⟨b3, 2, none⟩ = some (.string x) := hSw.tl.boxAt 2; go_simp)⟩) hHeld ?_
  (try simp only [Act.put, List.getElem_toArray, List.getElem_cons_zero, List.getElem_cons_succ, List.setIfInBounds_toArray, List.set_cons_zero, List.set_cons_succ])
  refine wpAnyH_ready (rs := [5]) (by kernel_rfl) (by simp) ?_
  refine AllReadyH.cons rfl (fun K hK => ?_) (AllReadyH.nil)
  rw [if_pos (by rfl)]
  go_wp2_with fail
  refine (HAP.out _).mono ?_
  rintro _ y2 ⟨rfl, hb2⟩
  have S2 := Lib.hid (HS0.out.up hb2)
  refine hK.out _ _ S2.out (fun hHeld2 => ?_)
  clear hHeld hK
  have hHeld := hHeld2
  clear hHeld2
  (try simp only [Act.put, List.getElem_toArray, List.getElem_cons_zero, List.getElem_cons_succ, List.setIfInBounds_toArray, List.set_cons_zero, List.set_cons_succ])
  refine wpAnyH_take (i := 6) (v := .tuple #[.string t, .int .i64 E]) rfl (by kernel_rfl) (by kernel_rfl) (by kernel_rfl) (fun _ _ _ h => h) (Or.inl ⟨by rfl, by (intro w hSw; (try dsimp only at hSw); go_simp)⟩) hHeld ?_
  (try simp only [Act.put, List.getElem_toArray, List.getElem_cons_zero, List.getElem_cons_succ, List.setIfInBounds_toArray, List.set_cons_zero, List.set_cons_succ])
  refine wpAnyH_take (i := 7) (v := .string t) rfl (by kernel_rfl) (by kernel_rfl) (by kernel_rfl) (fun _ _ _ h => h) (Or.inl ⟨by rfl, by (intro w hSw; (try dsimp only at hSw); go_simp)⟩) hHeld ?_
  (try simp only [Act.put, List.getElem_toArray, List.getElem_cons_zero, List.getElem_cons_succ, List.setIfInBounds_toArray, List.set_cons_zero, List.set_cons_succ])
  refine wpAnyH_take (i := 8) (v := .int .i64 E) rfl (by kernel_rfl) (by kernel_rfl) (by kernel_rfl) (fun _ _ _ h => h) (Or.inl ⟨by rfl, by (intro w hSw; (try dsimp only at hSw); go_simp)⟩) hHeld ?_
  (try simp only [Act.put, List.getElem_toArray, List.getElem_cons_zero, List.getElem_cons_succ, List.setIfInBounds_toArray, List.set_cons_zero, List.set_cons_succ])
  refine wpAnyH_take (i := 9) (v := .string t) rfl (by kernel_rfl) (by kernel_rfl) (by kernel_rfl) (fun _ _ _ h => h) (Or.inl ⟨by rfl, by (intro w hSw; (try dsimp only at hSw); go_simp)⟩) hHeld ?_
  (try simp only [Act.put, List.getElem_toArray, List.getElem_cons_zero, List.getElem_cons_succ, List.setIfInBounds_toArray, List.set_cons_zero, List.set_cons_succ])
  refine wpAnyH_take (i := 10) (v := .int .i64 E) rfl (by kernel_rfl) (by kernel_rfl) (by kernel_rfl) (fun _ _ _ h => h) (Or.inl ⟨by rfl, by (intro w hSw; (try dsimp only at hSw); go_simp)⟩) hHeld ?_
  (try simp only [Act.put, List.getElem_toArray, List.getElem_cons_zero, List.getElem_cons_succ, List.setIfInBounds_toArray, List.set_cons_zero, List.set_cons_succ])
  refine wpAnyH_done (by kernel_rfl) ?_ _
  clear hHeld hb2 HS0 S1
  have e0 : y2.cell? ⟨b5, 0, none⟩ = some (.slice none 0 0) := S2.out.boxAt 0; have e1 : y2.cell? ⟨b5, 1, none⟩ = some (.slice none 0 0) := S2.out.boxAt 1; have e2 : y2.cell? ⟨b5, 2, none⟩ = some (.slice none 0 0) := S2.out.boxAt 2; have e3 : y2.cell? ⟨b5, 3, none⟩ = some (.slice none 0 0) := S2.out.boxAt 3; have e4 : y2.cell? ⟨b5, 4, none⟩ = some (.int .i64 0) := S2.out.boxAt 4; have e5 : y2.cell? ⟨b5, 5, none⟩ = some (.int .i64 0) := S2.out.boxAt 5; have e6 : y2.cell? ⟨b5, 6, none⟩ = some (.int .i64 0) := S2.out.boxAt 6
  have g0 : y2.frozen? ⟨b5, 0, none⟩ = false := S2.out.fz 0; have g1 : y2.frozen? ⟨b5, 1, none⟩ = false := S2.out.fz 1; have g2 : y2.frozen? ⟨b5, 2, none⟩ = false := S2.out.fz 2; have g3 : y2.frozen? ⟨b5, 3, none⟩ = false := S2.out.fz 3; have g4 : y2.frozen? ⟨b5, 4, none⟩ = false := S2.out.fz 4; have g5 : y2.frozen? ⟨b5, 5, none⟩ = false := S2.out.fz 5; have g6 : y2.frozen? ⟨b5, 6, none⟩ = false := S2.out.fz 6
  have S3 := Lib.hid (((((((S2.out.setAt [] 0 (.slice none 0 0)).setAt [] 1 (.slice none 0 0)).setAt [] 2 (.slice none 0 0)).setAt [] 3 (.slice none 0 0)).setAt [] 4 (.int .i64 0)).setAt [] 5 (.int .i64 0)).setAt [] 6 (.int .i64 0))
  go_wp2_with fail
  refine bodyPost_ret (results_tct rfl _ _ b5 _ rfl S3.out.at.2 rfl) rfl ?_
  exact ⟨rfl, S3.out.bel⟩
end Go.Proofs.Ytemkppjdfjoipaa.I1.X
end
