/- Texts of package regs, one behind the other. -/
import Derived.Test.YtmjojahkbjlcdaaDoorProg
import Derived.Test.YtmjojahkbjlcdaaDoorX3
import Derived.Test.YtmjojahkbjlcdaaDoorX4
import Derived.WalkKit
import Derived.WalkLawsBesides
import Derived.WalkSpells
import Derived.Outline
import Derived.Lib.Walk
import Derived.Lib.Hide
import Derived.RegionTactic
import Derived.LoopTactic
import Derived.Below
import Derived.IntWalk
import Derived.Deep.QuietTactic
import Derived.BigQuiet
import Derived.Test.YtmjojahkbjlcdaaDoorX16
import Derived.Laws.AppendOwn
import Derived.Lib.BufferRead
import Derived.Laws.IdiomStrings
import Derived.Laws.ResultCell
import Derived.Test.YtmjojahkbjlcdaaDoorX6
import Derived.Laws.OwnMore
section
/- Package regs: the reader's small steps: what comes next. -/
namespace Go.Proofs.YtmjojahkbjlcdaaDoor
set_option linter.unusedSimpArgs false
set_option linter.unusedVariables false
set_option maxRecDepth 100000
open Go.RowKit

def checkE (t : RT) : Int := if 512 < sz t then 3 else if 16 < dep t then 51 else if mayB t then 0 else 2
set_option maxHeartbeats 4000000 in
theorem check_any {D : Nat → Prop} {t : RT} {v : Value} {w : World} (hD : ∀ b, D b → b < w.heap.size) (hw : wid t ≤ 9223372036854775806) (h : RV D w t v) :
    Calls Tryd.prog 15 #[v] w fun e w' => e = .returned (.int .i64 (checkE t)) ∧ Below w.heap.size w w' := by
  obtain ⟨k, u, p, n, c, rfl⟩ := h.form2
  have S0 := Lib.hid ((Sb.start w).alloc (.cells #[.int .i64 k, .int .u64 (u 0), .int .u64 (u 1), .int .u64 (u 2), .int .u64 (u 3), .slice p n c] 27))
  have HR := Lib.hid fun w' (hb : Below w.heap.size w w') => (⟨RV.mono (fun b h => h) (fun b hb' hlt => hb.block b hlt) h, fun b hd => Nat.lt_of_lt_of_le (hD b hd) hb.size⟩ : RV D w' t (.agg #[.int .i64 k, .int .u64 (u 0), .int .u64 (u 1), .int .u64 (u 2), .int .u64 (u 3), .slice p n c]) ∧ ∀ b, D b → b < w'.heap.size)
  have hce : checkE t = if 512 < sz t then 3 else if 16 < dep t then 51 else if mayB t then 0 else 2 := rfl
  have HCE := Lib.hid hce
  have hdz := dep_sz t
  have hwz := wid_sz t
  clear h hce
  by_cases h1 : 512 < sz t
  · have hc : checkE t = 3 := by rw [HCE.out, if_pos h1]
    rw [hc]
    have hm : (512 : Int) < ((min (sz t) 513 : Nat) : Int) := by omega
    have HS := Lib.hid fun w' hb => size_any (w := w') (HR.out w' hb).2 hw (HR.out w' hb).1
    generalize (min (sz t) 513 : Nat) = m at *
    go_enter Tryd.func15, Tryd.ntmps15
    go_wp2_with fail
    refine (HS.out _ S0.out.1).mono ?_
    rintro _ w1 ⟨rfl, hb⟩
    have H1 := Lib.hid (S0.out.up hb)
    clear hb
    go_wp2
    go_ret
    exact ⟨rfl, H1.out.1⟩
  · have hm : ¬ (512 : Int) < ((min (sz t) 513 : Nat) : Int) := by omega
    have HS := Lib.hid fun w' hb => size_any (w := w') (HR.out w' hb).2 hw (HR.out w' hb).1
    have HDp := Lib.hid fun w' hb => depth_any (w := w') (dep t) t (Nat.le_refl _) (by omega) (HR.out w' hb).2 (by omega) (HR.out w' hb).1
    have HMy := Lib.hid fun w' hb => may_any (w := w') (dep t) t (Nat.le_refl _) (HR.out w' hb).2 hw (HR.out w' hb).1
    generalize (min (sz t) 513 : Nat) = m at *
    by_cases h2 : 16 < dep t
    · have hc : checkE t = 51 := by rw [HCE.out, if_neg h1, if_pos h2]
      rw [hc]
      have hd : (16 : Int) < ((dep t : Nat) : Int) := by omega
      generalize dep t = d at *
      go_enter Tryd.func15, Tryd.ntmps15
      go_wp2_with fail
      refine (HS.out _ S0.out.1).mono ?_
      rintro _ w1 ⟨rfl, hb⟩
      have H1 := Lib.hid (S0.out.up hb)
      have d0 := H1.out.cell 0; have d1 := H1.out.cell 1; have d2 := H1.out.cell 2; have d3 := H1.out.cell 3; have d4 := H1.out.cell 4; have d5 := H1.out.cell 5
      simp only [List.getElem?_toArray, List.getElem?_cons_zero, List.getElem?_cons_succ] at d0 d1 d2 d3 d4 d5
      clear hb
      go_wp2_with fail
      refine (HDp.out _ H1.out.1).mono ?_
      rintro _ w2 ⟨rfl, hb⟩
      have H2 := Lib.hid (H1.out.up hb)
      clear hb
      go_wp2
      go_ret
      exact ⟨rfl, H2.out.1⟩
    · have hd : ¬ (16 : Int) < ((dep t : Nat) : Int) := by omega
      have hc : checkE t = if mayB t then 0 else 2 := by rw [HCE.out, if_neg h1, if_neg h2]
      rw [hc]
      generalize dep t = d at *
      cases hmy : mayB t
      all_goals
        rw [hmy] at HMy
        clear hmy hc
        go_enter Tryd.func15, Tryd.ntmps15
        go_wp2_with fail
        refine (HS.out _ S0.out.1).mono ?_
        rintro _ w1 ⟨rfl, hb⟩
        have H1 := Lib.hid (S0.out.up hb)
        have d0 := H1.out.cell 0; have d1 := H1.out.cell 1; have d2 := H1.out.cell 2; have d3 := H1.out.cell 3; have d4 := H1.out.cell 4; have d5 := H1.out.cell 5
        simp only [List.getElem?_toArray, List.getElem?_cons_zero, List.getElem?_cons_succ] at d0 d1 d2 d3 d4 d5
        clear hb
        go_wp2_with fail
        refine (HDp.out _ H1.out.1).mono ?_
        rintro _ w2 ⟨rfl, hb⟩
        have H2 := Lib.hid (H1.out.up hb)
        clear d0 d1 d2 d3 d4 d5 hb
        have d0 := H2.out.cell 0; have d1 := H2.out.cell 1; have d2 := H2.out.cell 2; have d3 := H2.out.cell 3; have d4 := H2.out.cell 4; have d5 := H2.out.cell 5
        simp only [List.getElem?_toArray, List.getElem?_cons_zero, List.getElem?_cons_succ] at d0 d1 d2 d3 d4 d5
        go_wp2_with fail
        refine (HMy.out _ H2.out.1).mono ?_
        rintro _ w3 ⟨rfl, hb⟩
        have H3 := Lib.hid (H2.out.up hb)
        clear hb
        go_wp2
        go_ret
        exact ⟨rfl, H3.out.1⟩
end Go.Proofs.YtmjojahkbjlcdaaDoor
end
section
/- Members: a set's bytes, rising; the document's likewise, of flags. -/
namespace Go.Proofs.YtmjojahkbjlcdaaDoor
set_option linter.unusedSimpArgs false
set_option linter.unusedVariables false
set_option maxRecDepth 100000
open Go.RowKit

/-- The first k numbers that are in f, as bytes. -/
def mem (f : Nat → Bool) : Nat → List UInt8
  | 0 => []
  | k + 1 => if f k then mem f k ++ [UInt8.ofNat k] else mem f k
theorem mem_len (f : Nat → Bool) : ∀ k, (mem f k).length = cntF f k
  | 0 => rfl
  | k + 1 => by
    have := mem_len f k
    simp only [mem, cntF]
    cases f k <;> simp [this]
theorem byteCells_snoc (l : List UInt8) (k : Nat) (hk : k < 256) : Lib.byteCells (l ++ [UInt8.ofNat k]) = Lib.byteCells l ++ [.int .u8 (k : Int)] := by
  simp [Lib.byteCells]; omega
theorem byteCells_len (l : List UInt8) : (Lib.byteCells l).length = l.length := by simp [Lib.byteCells]

theorem IsBuilderF.up {T e : TypeId} {B b : Nat} {bs : List Value} {w w' : World} (h : Lib.IsBuilderF T e B b bs w) (hb : Below w.heap.size w w') : Lib.IsBuilderF T e B b bs w' := by
  have key : ∀ p, Lib.BuilderAtF T e B b p bs w → Lib.BuilderAtF T e B b p bs w' := by
    rintro p ⟨hB, v, hbk, hown, hne⟩
    have hlt := (Array.getElem?_eq_some_iff.1 hbk).1
    refine ⟨hB, v, (hb.block _ hlt).trans hbk, hown.kept (row := none) ⟨hb.os, hb.tape, hb.output, hb.size, fun k hk _ => hb.block k hk⟩ ?_, hne⟩
    cases v.ownBlock with
    | none => exact .inl rfl
    | some k => exact .inr (by simp)
  exact h.elim (fun x => .inl (key _ x)) (fun x => .inr (key _ x))
theorem IsBuilderF.lt {T e : TypeId} {B b : Nat} {bs : List Value} {w : World} (h : Lib.IsBuilderF T e B b bs w) : b < w.heap.size := h.elim (·.lt) (·.lt)
/-- A builder at block b that holds the bytes l. -/
def Bd (B b : Nat) (l : List UInt8) (w : World) : Prop := Lib.IsBuilderF 58 5 B b (Lib.byteCells l) w
theorem Bd.up {B b : Nat} {l : List UInt8} {w w' : World} (h : Bd B b l w) (hb : Below w.heap.size w w') : Bd B b l w' := IsBuilderF.up h hb
theorem Bd.lt {B b : Nat} {l : List UInt8} {w : World} (h : Bd B b l w) : b < w.heap.size := IsBuilderF.lt h
theorem Bd.fresh (w : World) : Bd w.heap.size w.heap.size [] (w.alloc (.cells #[.pointer none, .slice none 0 0] 58)) := Lib.IsBuilderF.of (Lib.fresh_isBuilder 58 5 w)
theorem Bd.byte {B b : Nat} {l : List UInt8} {w : World} (h : Bd B b l w) (k : Nat) (hk : k < 256) (hl : l.length < 1000000) (hBw : B ≤ w.heap.size) :
    Calls Tryd.prog 53 #[.pointer (some ⟨b, 0, none⟩), .int .u8 k] w fun e w' => e = .returned .nilIface ∧ Bd B b (l ++ [UInt8.ofNat k]) w' ∧ Below B w w' ∧ Lib.OthersKept 5 (some b) w w' := by
  refine (Tryd.Builder_WriteByte_k B b (Lib.byteCells l) k w h (by rw [byteCells_len]; omega) hBw).mono ?_
  rintro e w' ⟨rfl, h1, h2, h3⟩
  refine ⟨rfl, ?_, h2, h3⟩
  unfold Bd
  rw [byteCells_snoc l k hk]
  exact .inr h1
theorem Bd.string {B b : Nat} {l : List UInt8} {w : World} (h : Bd B b l w) (hBw : B ≤ w.heap.size) :
    Calls Tryd.prog 41 #[.pointer (some ⟨b, 0, none⟩)] w fun e w' => e = .returned (.string ⟨l.toArray⟩) ∧ Below B w w' := by
  refine (Tryd.Builder_String_any_k B b l w h hBw).mono ?_
  rintro e w' ⟨rfl, h1, h2, h3⟩
  exact ⟨rfl, h2⟩

set_option maxHeartbeats 4000000 in
theorem members_any (f : Nat → Bool) (w : World) :
    Calls Tryd.prog 73 #[setV f] w fun e w' => e = .returned (.string ⟨(mem f 256).toArray⟩) ∧ Below w.heap.size w w' := by
  have S0 := Lib.hid ((Sb.start w).alloc (.cells (wc f) 24))
  have B0 := Lib.hid (Bd.fresh (w.alloc (.cells (wc f) 24)))
  obtain ⟨G, hG⟩ : ∃ G, mem f 256 = G := ⟨_, rfl⟩
  rw [hG]
  have hG' := Lib.hid hG
  clear hG
  go_enter Tryd.func73, Tryd.ntmps73
  go_wp2
  go_loopw [6] (fun i wr => ∃ k : Nat, k ≤ 256 ∧ i = .int .i64 k ∧ Sb w wr [(w.heap.size, .cells (wc f) 24)] ∧ Bd (w.heap.size + 1) (w.heap.size + 1) (mem f k) wr) (fun i _ => 256 - (intOf i).toNat)
  case atStart => exact ⟨0, by omega, rfl, by simpa [wc] using S0.out.up ((Below.refl _ _).alloc (Nat.le_refl _) _), by simpa [wc, mem] using B0.out⟩
  case round =>
    obtain ⟨k, hk, rfl, hS, hB⟩ := hrel
    have HS := Lib.hid hS
    have HB := Lib.hid hB
    clear hS hB
    by_cases hlt : k < 256
    · have hlt' : (k : Int) < 256 := by omega
      have hm : (k : Int) % 256 = k := by omega
      have c0 := HS.out.word 0 (by omega)
      have c1 := HS.out.word 1 (by omega)
      have c2 := HS.out.word 2 (by omega)
      have c3 := HS.out.word 3 (by omega)
      have hh := Lib.hid (has_any f k hlt)
      have hs : mem f (k + 1) = if f k then mem f k ++ [UInt8.ofNat k] else mem f k := rfl
      have hl : (mem f k).length < 1000000 := by rw [mem_len]; have := cnt_le f k; omega
      generalize mem f k = l at *
      cases hf : f k
      · rw [hf] at hh hs
        have hs' := Lib.hid hs
        clear hs hf
        go_wp2_with fail
        refine (hh.out _).mono ?_
        rintro _ w2 ⟨rfl, hb⟩
        have HS2 := Lib.hid (HS.out.up hb)
        have HB2 := Lib.hid (HB.out.up hb)
        clear c0 c1 c2 c3 hb
        go_wp2
        go_roundw
        case rel => exact ⟨k + 1, by omega, by go_num, HS2.out, by rw [hs'.out]; exact HB2.out⟩
        case measure => simp [intOf]; omega
      · rw [hf] at hh hs
        have hs' := Lib.hid hs
        clear hs hf
        go_wp2_with fail
        refine (hh.out _).mono ?_
        rintro _ w2 ⟨rfl, hb⟩
        have HS2 := Lib.hid (HS.out.up hb)
        have HB2 := Lib.hid (HB.out.up hb)
        clear c0 c1 c2 c3 hb
        go_wp2_with fail
        refine (HB2.out.byte k hlt hl (by have := HB2.out.lt; omega)).mono ?_
        rintro _ w3 ⟨rfl, hB3, hb3, ho3⟩
        have HS3 := Lib.hid (HS2.out.others (hb3.mono (by omega)) ho3 (by simp))
        have HB3 := Lib.hid hB3
        clear hB3 hb3 ho3
        go_wp2
        go_roundw
        case rel => exact ⟨k + 1, by omega, by go_num, HS3.out, by rw [hs'.out]; exact HB3.out⟩
        case measure => simp [intOf]; omega
    · obtain rfl : k = 256 := by omega
      rw [hG'.out] at HB
      go_wp2_with fail
      refine (HB.out.string (by have := HB.out.lt; omega)).mono ?_
      rintro _ w2 ⟨rfl, hb⟩
      have hE := Lib.hid (HS.out.1.trans (hb.mono (by omega)))
      clear hb
      go_wp2
      go_ret
      exact ⟨rfl, hE.out⟩
end Go.Proofs.YtmjojahkbjlcdaaDoor
end
section
/- runs: the stretches of a set. -/
namespace Go.Proofs.YtmjojahkbjlcdaaDoor
set_option linter.unusedSimpArgs false
set_option linter.unusedVariables false
set_option maxRecDepth 100000
open Go.RowKit

def rc (R : List (Nat × Nat)) : List Value := R.flatMap fun x => [.int .u8 x.1, .int .u8 x.2]
theorem rc_len : ∀ R, (rc R).length = R.length * 2
  | [] => rfl
  | x :: r => by
    have := rc_len r
    simp only [rc, List.flatMap_cons, List.length_append, List.length_cons, List.length_nil] at this ⊢
    omega
theorem rc_app (R S : List (Nat × Nat)) : rc (R ++ S) = rc R ++ rc S := by simp [rc]
theorem rc_one (a b : Nat) : rc [(a, b)] = [.int .u8 a, .int .u8 b] := rfl
theorem rc_set (R : List (Nat × Nat)) (a b k : Nat) : (rc (R ++ [(a, b)])).set (R.length * 2 + 1) (.int .u8 k) = rc (R ++ [(a, k)]) := by
  rw [rc_app, rc_app, rc_one, rc_one, List.set_append_right _ _ (by rw [rc_len]; omega), rc_len]
  rw [show R.length * 2 + 1 - R.length * 2 = 1 by omega]; rfl
theorem rc_get (R : List (Nat × Nat)) (a b : Nat) : (rc (R ++ [(a, b)]))[R.length * 2 + 1]? = some (.int .u8 b) := by
  rw [rc_app, rc_one, List.getElem?_append_right (by rw [rc_len]; omega), rc_len]
  rw [show R.length * 2 + 1 - R.length * 2 = 1 by omega]; rfl
theorem info63 : (Tryd.prog.info? 117).map (fun i => (i.zero, i.size, i.bytes)) = some (some (.agg #[.int .u8 0, .int .u8 0]), 2, 2) := by kernel_rfl
theorem Sb.grown {w0 w w' : World} {L : List (Nat × Obj)} {row : Option Nat} (h : Sb w0 w L) (hg : w.grownBy w' row) (hrow : ∀ g, row = some g → w0.heap.size ≤ g ∧ ∀ c ∈ L, c.1 ≠ g) : Sb w0 w' L := by
  refine ⟨⟨hg.os.trans h.1.os, hg.tape.trans h.1.tape, hg.output.trans h.1.output, Nat.le_trans h.1.size hg.size, fun k hk => ?_⟩, fun c hc => ?_⟩
  · refine (hg.block k (Nat.lt_of_lt_of_le hk h.1.size) (fun e => ?_)).trans (h.1.block k hk)
    have := (hrow k e.symm).1; omega
  · refine ⟨(h.2 c hc).1, (hg.block c.1 (Array.getElem?_eq_some_iff.1 (h.2 c hc).2).1 (fun e => ?_)).trans (h.2 c hc).2⟩
    exact (hrow c.1 e.symm).2 c hc rfl
/-- The row of a set's stretches. -/
def Own (w0 : World) (R : List (Nat × Nat)) (v : Value) (w : World) : Prop := w.ownsRow (w0.heap.size + 1) 117 2 v R.length (rc R)
theorem Own.up {w0 w w' : World} {R : List (Nat × Nat)} {v : Value} (h : Own w0 R v w) (hb : Below w.heap.size w w') : Own w0 R v w' :=
  World.ownsRow.kept h (row := none) ⟨hb.os, hb.tape, hb.output, hb.size, fun k hk _ => hb.block k hk⟩ (by cases v.ownBlock <;> simp)
def RunsP (f : Nat → Bool) (w : World) (e : Ending) (w' : World) : Prop := ∃ v, e = .returned v ∧ Own w (runsF f 256) v w' ∧ Below w.heap.size w w'
set_option maxHeartbeats 8000000 in
set_option maxRecDepth 100000 in
theorem runs_any (f : Nat → Bool) (w : World) : Calls Tryd.prog 95 #[setV f] w (RunsP f w) := by
  obtain ⟨i0, hi, hz0, hz1, hz2⟩ := info_parts info63
  have S0 := Lib.hid ((Sb.start w).alloc (.cells (wc f) 24))
  go_enter Tryd.func95, Tryd.ntmps95
  go_wp2
  go_loopw [3, 6] (fun v i wr => ∃ k : Nat, k ≤ 256 ∧ i = .int .i64 k ∧ Sb w wr [(w.heap.size, .cells (wc f) 24)] ∧ Own w (runsF f k) v wr) (fun _ i _ => 256 - (intOf i).toNat)
  case atStart => exact ⟨0, by omega, rfl, S0.out, World.ownsRow_nil _ _ _ _⟩
  case round =>
    obtain ⟨k, hk, rfl, hS, hO⟩ := hrel
    have HS := Lib.hid hS
    have HO := Lib.hid hO
    clear hS hO
    by_cases hlt : k < 256
    · have hlt' : (k : Int) < 256 := by omega
      have hm : (k : Int) % 256 = k := by omega
      have c0 := HS.out.word 0 (by omega); have c1 := HS.out.word 1 (by omega); have c2 := HS.out.word 2 (by omega); have c3 := HS.out.word 3 (by omega)
      have hh := Lib.hid (has_any f k hlt)
      cases hf : f k
      · have HN := Lib.hid (runs_no f k hf)
        rw [hf] at hh
        clear hf
        go_wp2_with fail
        refine (hh.out _).mono ?_
        rintro _ w2 ⟨rfl, hb⟩
        have HS2 := Lib.hid (HS.out.up hb)
        have HO2 := Lib.hid (HO.out.up hb)
        clear c0 c1 c2 c3 hb
        go_wp2
        go_roundw
        case rel => exact ⟨k + 1, by omega, by go_num, HS2.out, by rw [HN.out]; exact HO2.out⟩
        case measure => simp [intOf]; omega
      · rw [hf] at hh
        by_cases hk0 : k = 0
        · have HN := Lib.hid (runs_new f k hf (.inl hk0))
          have hkn : ¬ (0 : Int) < (k : Int) := by omega
          clear hf hk0
          go_wp2_with fail
          refine (hh.out _).mono ?_
          rintro _ w2 ⟨rfl, hb⟩
          have HS2 := Lib.hid (HS.out.up hb)
          have HO2 := Lib.hid (HO.out.up hb)
          clear c0 c1 c2 c3 hb
          have hlen3 : (runsF f k).length + 1 ≤ 256 := by have := runs_count f k; omega
          go_wp2_with (at_builtin; refine wpList_append_own _ rfl (.tmp 30) (.tmp 34) 114 rfl (w.heap.size + 1) 117 i0 (.agg #[.int .u8 0, .int .u8 0]) 2 2 Tryd.underlying114 hi hz0 hz1 hz2 rfl (by decide) u3 (runsF f k).length (rc (runsF f k)) rfl ?c0 ⟨w2.heap.size, 0, none⟩ 1 1 (rc [(k, k)]) rfl rfl ?c1 ?c2 ?c3 ?c4 ?c5 ?_)
          case c0 => exact World.ownsRow.alloc HO2.out _
          case c1 =>
            intro j u hj
            match j, hj with
            | 0, hj => simp [rc] at hj; subst hj; simp [Addr.add]
            | 1, hj => simp [rc] at hj; subst hj; simp [Addr.add]
            | j + 2, hj => simp [rc] at hj
          case c2 => intro u hu; simp [rc] at hu; rcases hu with rfl | rfl <;> rfl
          case c3 => unfold maxLen; omega
          case c4 => omega
          case c5 => have := HS2.out.lt; simp; omega
          intro v' w7 hown7 hgrow7 _
          have HS7 := Lib.hid ((HS2.out.up ((Below.refl _ _).alloc (Nat.le_refl _) _)).grown hgrow7 (fun g hg => by have := (World.ownsRow.lt HO2.out g hg).1; exact ⟨by omega, by simp; omega⟩))
          have HO7 := Lib.hid hown7
          rw [← rc_app] at HO7
          clear hown7 hgrow7
          go_wp2
          go_roundw
          case rel => exact ⟨k + 1, by omega, by go_num, HS7.out, by unfold Own; rw [HN.out]; simpa using HO7.out⟩
          case measure => simp [intOf]; omega
        · have hh1 := Lib.hid (has_any f (k - 1) (by omega))
          have hk1 : (((k - 1 : Nat)) : Int) = (k : Int) - 1 := by omega
          rw [hk1] at hh1
          clear hk1
          have hk0 : (0 : Int) < (k : Int) := by omega
          cases hp : f (k - 1)
          · have HN := Lib.hid (runs_new f k hf (.inr hp))
            rw [hp] at hh1
            clear hf hp
            go_wp2_with fail
            refine (hh.out _).mono ?_
            rintro _ w1 ⟨rfl, hb⟩
            have HS1 := Lib.hid (HS.out.up hb)
            have HO1 := Lib.hid (HO.out.up hb)
            clear c0 c1 c2 c3 hb
            have c0 := HS1.out.word 0 (by omega); have c1 := HS1.out.word 1 (by omega); have c2 := HS1.out.word 2 (by omega); have c3 := HS1.out.word 3 (by omega)
            go_wp2_with fail
            refine (hh1.out _).mono ?_
            rintro _ w2 ⟨rfl, hb⟩
            have HS2 := Lib.hid (HS1.out.up hb)
            have HO2 := Lib.hid (HO1.out.up hb)
            clear c0 c1 c2 c3 hb
            have hlen3 : (runsF f k).length + 1 ≤ 256 := by have := runs_count f k; omega
            go_wp2_with (at_builtin; refine wpList_append_own _ rfl (.tmp 30) (.tmp 34) 114 rfl (w.heap.size + 1) 117 i0 (.agg #[.int .u8 0, .int .u8 0]) 2 2 Tryd.underlying114 hi hz0 hz1 hz2 rfl (by decide) u3 (runsF f k).length (rc (runsF f k)) rfl ?c0 ⟨w2.heap.size, 0, none⟩ 1 1 (rc [(k, k)]) rfl rfl ?c1 ?c2 ?c3 ?c4 ?c5 ?_)
            case c0 => exact World.ownsRow.alloc HO2.out _
            case c1 =>
              intro j u hj
              match j, hj with
              | 0, hj => simp [rc] at hj; subst hj; simp [Addr.add]
              | 1, hj => simp [rc] at hj; subst hj; simp [Addr.add]
              | j + 2, hj => simp [rc] at hj
            case c2 => intro u hu; simp [rc] at hu; rcases hu with rfl | rfl <;> rfl
            case c3 => unfold maxLen; omega
            case c4 => omega
            case c5 => have := HS2.out.lt; simp; omega
            intro v' w7 hown7 hgrow7 _
            have HS7 := Lib.hid ((HS2.out.up ((Below.refl _ _).alloc (Nat.le_refl _) _)).grown hgrow7 (fun g hg => by have := (World.ownsRow.lt HO2.out g hg).1; exact ⟨by omega, by simp; omega⟩))
            have HO7 := Lib.hid hown7
            rw [← rc_app] at HO7
            clear hown7 hgrow7
            go_wp2
            go_roundw
            case rel => exact ⟨k + 1, by omega, by go_num, HS7.out, by unfold Own; rw [HN.out]; simpa using HO7.out⟩
            case measure => simp [intOf]; omega
          · obtain ⟨R, a, hR, ha⟩ := runs_last f k (by omega) hp
            have HN := Lib.hid (runs_on f k (by omega) hf hp R a hR)
            rw [hp] at hh1
            clear hf hp
            go_wp2_with fail
            refine (hh.out _).mono ?_
            rintro _ w1 ⟨rfl, hb⟩
            have HS1 := Lib.hid (HS.out.up hb)
            have HO1 := Lib.hid (HO.out.up hb)
            clear c0 c1 c2 c3 hb
            have c0 := HS1.out.word 0 (by omega); have c1 := HS1.out.word 1 (by omega); have c2 := HS1.out.word 2 (by omega); have c3 := HS1.out.word 3 (by omega)
            go_wp2_with fail
            refine (hh1.out _).mono ?_
            rintro _ w2 ⟨rfl, hb⟩
            have HS2 := Lib.hid (HS1.out.up hb)
            have hO2 := HO1.out.up hb
            clear c0 c1 c2 c3 hb
            have hcnt : R.length + 1 ≤ 256 := by have := runs_count f k; rw [hR] at this; simp at this; omega
            unfold Own at hO2
            rw [hR] at hO2
            simp only [List.length_append, List.length_cons, List.length_nil] at hO2
            rcases hO2.2 with ⟨_, h0⟩ | ⟨g, cap, cur, hv, hbg, hgh, hnc, hcm, hcs, htk⟩
            · omega
            · subst hv
              have c9 := (hO2.cellAt (R.length * 2 + 1) (by omega)).trans (rc_get R a (k - 1))
              have f9 := hO2.frozenAt (R.length * 2 + 1)
              have z9 : g < w2.heap.size := (Array.getElem?_eq_some_iff.1 hgh).1
              have hst := Lib.hid (hO2.stored (R.length * 2 + 1) (.int .u8 k))
              have HS7 := Lib.hid (HS2.out.grown hst.out.2 (fun g' hg' => by cases hg'; exact ⟨by omega, by simp; omega⟩))
              clear hO2 hgh hcs htk hR
              go_wp2
              go_roundw
              case rel => exact ⟨k + 1, by omega, by go_num, HS7.out, by unfold Own; rw [HN.out]; have hst1 := hst.out.1; rw [rc_set] at hst1; simpa using hst1⟩
              case measure => simp [intOf]; omega
    · obtain rfl : k = 256 := by omega
      go_wp2
      go_ret
      exact ⟨_, rfl, HO.out, HS.out.1⟩
end Go.Proofs.YtmjojahkbjlcdaaDoor
end
