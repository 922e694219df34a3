/- Texts of package regs, one behind the other. -/
import Derived.Test.YtmjojahkbjlcdaaDoorProg
import Derived.Test.YtmjojahkbjlcdaaDoorY12
import Derived.WalkKit
import Derived.WalkLawsBesides
import Derived.WalkSpells
import Derived.Outline
import Derived.Lib.Walk
import Derived.Lib.Hide
import Derived.RegionTactic
import Derived.LoopTactic
import Derived.Below
import Derived.IntWalk
import Derived.Lib.Slices
import Derived.Lib.Strings
import Derived.Test.YtmjojahkbjlcdaaDoorY3
import Derived.Laws.AppendOwn
import Derived.Lib.BufferRead
import Derived.Laws.IdiomStrings
import Derived.Laws.ResultCell
import Derived.Test.YtmjojahkbjlcdaaDoorY4
import Derived.Test.YtmjojahkbjlcdaaDoorY6
import Derived.Laws.OwnMore
section
/- The document's Print. -/
namespace Go.Proofs.YtmjojahkbjlcdaaDoor
set_option linter.unusedSimpArgs false
set_option linter.unusedVariables false
set_option maxRecDepth 100000
open Go.RowKit

theorem noF_zero (f : Nat → Bool) : (fun j => decide (j < 0) && !f j) = fun _ => false := by funext j; simp
def lowN (f : Nat → Bool) (k j : Nat) : Bool := decide (j < k) && !f j
theorem lowN_zero (f : Nat → Bool) : lowN f 0 = fun _ => false := by funext j; simp [lowN]
theorem lowN_set (f : Nat → Bool) (k : Nat) : (fl (lowN f k)).setIfInBounds k (.bool (!f k)) = fl (lowN f (k + 1)) := by
  refine fl_set _ _ k (!f k) fun j _ => ?_
  unfold lowN
  by_cases h : j = k
  · subst h; simp
  · by_cases h1 : j < k
    · simp [h, h1, show j < k + 1 by omega]
    · simp [h, h1, show ¬ j < k + 1 by omega]
theorem lowN_all (f : Nat → Bool) : fl (lowN f 256) = fl (fun b => !f b) := fl_congr fun j hj => by simp [lowN, hj]
set_option maxHeartbeats 8000000 in
set_option maxRecDepth 100000 in
theorem rprint_any (f : Nat → Bool) (w : World) : Calls Tryd.prog 78 #[.agg (fl f)] w fun e w' => e = .returned (.string (bs (pr f))) ∧ Below w.heap.size w w' := by
  have S0 := Lib.hid ((Sb.start w).alloc (.cells (fl f) 94))
  have hz := zero27
  have hcn := Lib.hid (rcount_any f)
  have hit := Lib.hid (items_any f)
  have hin := Lib.hid (items_any (fun b => !f b))
  have hl1 := txt_len f 256
  have hl2 := txt_len (fun b => !f b) 256
  have hl3 := cnt_not f 256
  have h0 := Lib.hid S0.out.heap
  by_cases hc : 128 < cntF f 256
  · have heq := Lib.hid (show bs [91, 94] ++ bs (txt (runsF (fun b => !f b) 256)) ++ bs [93] = bs (pr f) by unfold pr; rw [if_pos hc, bs_app, bs_app])
    have hsz : (bs (txt (runsF (fun b => !f b) 256))).size ≤ 512 := by rw [bsz]; omega
    have hcd : ¬ cntF f 256 ≤ 128 := by omega
    clear hl1 hl2 hl3 hc hit
    generalize cntF f 256 = n at *
    generalize bs (pr f) = P at *
    generalize bs (txt (runsF (fun b => !f b) 256)) = x at *
    have z1 : ¬ 9223372036854775807 < 2 + x.size := by omega
    have z2 : ¬ 9223372036854775807 < (bs [91, 94] ++ x).size + 1 := by simp [bsz]; omega
    go_enter Tryd.func78, Tryd.ntmps78
    go_wp2_with (refine wpList_load_row rfl 94 (.tmp 1) rfl w.heap.size rfl 94 (fl f) (0, 0) _ h0.out Tryd.underlying94 rfl (fsize27 f) ?_)
    refine (hcn.out _).mono ?_
    rintro _ w1 ⟨rfl, hb⟩
    have S1 := Lib.hid (S0.out.up hb)
    clear hb hcn h0
    have S2 := Lib.hid (S1.out.alloc (.cells (fl fun _ => false) 94))
    have hz1 : w.heap.size < w1.heap.size := S1.out.lt
    go_wp2_with fail
    go_loopw [4] (fun i wr => ∃ k : Nat, k ≤ 256 ∧ i = .int .i64 k ∧ Sb w wr [(w1.heap.size, .cells (fl (lowN f k)) 94), (w.heap.size, .cells (fl f) 94)]) (fun i _ => 256 - (intOf i).toNat)
    case atStart => exact ⟨0, by omega, rfl, by rw [lowN_zero]; exact S2.out⟩
    case round =>
      obtain ⟨k, hk, rfl, hS⟩ := hrel
      have HS := Lib.hid hS
      clear hS
      by_cases hlt : k < 256
      · have hlt' : (k : Int) < 256 := by omega
        have c0 := HS.out.tl.flag k hlt
        have c1 := HS.out.flag k hlt
        have f1 := HS.out.free k
        have z9 := HS.out.lt
        have hset := Lib.hid (lowN_set f k)
        generalize f k = v at c0 hset
        go_wp2
        go_roundw
        case rel => exact ⟨k + 1, by omega, by go_num, by rw [← hset.out]; exact HS.out.set _ (by simp; omega)⟩
        case measure => simp [intOf]; omega
      · obtain rfl : k = 256 := by omega
        rw [lowN_all] at HS
        have h0 := Lib.hid HS.out.heap
        clear hlt hk
        go_wp2_with (refine wpList_load_row rfl 94 (.tmp 3) rfl w1.heap.size rfl 94 (fl fun b => !f b) (0, 0) _ h0.out Tryd.underlying94 rfl (fsize27 _) ?_)
        refine (hin.out _).mono ?_
        rintro _ w4 ⟨rfl, hb⟩
        have HE := Lib.hid (HS.out.up hb).1
        clear hb h0
        go_wp2
        go_ret
        exact ⟨by rw [← heq.out]; rfl, HE.out⟩
  · have heq := Lib.hid (show bs [91] ++ bs (txt (runsF f 256)) ++ bs [93] = bs (pr f) by unfold pr; rw [if_neg hc, bs_app, bs_app])
    have hsz : (bs (txt (runsF f 256))).size ≤ 512 := by rw [bsz]; omega
    have hcd : cntF f 256 ≤ 128 := by omega
    clear hl1 hl2 hl3 hc hin
    generalize cntF f 256 = n at *
    generalize bs (pr f) = P at *
    generalize bs (txt (runsF f 256)) = x at *
    have z1 : ¬ 9223372036854775807 < 1 + x.size := by omega
    have z2 : ¬ 9223372036854775807 < (bs [91] ++ x).size + 1 := by simp [bsz]; omega
    go_enter Tryd.func78, Tryd.ntmps78
    go_wp2_with (refine wpList_load_row rfl 94 (.tmp 1) rfl w.heap.size rfl 94 (fl f) (0, 0) _ h0.out Tryd.underlying94 rfl (fsize27 f) ?_)
    refine (hcn.out _).mono ?_
    rintro _ w1 ⟨rfl, hb⟩
    have S1 := Lib.hid (S0.out.up hb)
    have h1 := Lib.hid S1.out.heap
    clear hb hcn h0
    go_wp2_with (refine wpList_load_row rfl 94 (.tmp 1) rfl w.heap.size rfl 94 (fl f) (0, 0) _ h1.out Tryd.underlying94 rfl (fsize27 f) ?_)
    refine (hit.out _).mono ?_
    rintro _ w4 ⟨rfl, hb⟩
    have HE := Lib.hid (S1.out.up hb).1
    clear hb h1
    go_wp2
    go_ret
    exact ⟨by rw [← heq.out]; rfl, HE.out⟩
end Go.Proofs.YtmjojahkbjlcdaaDoor
end
section
/- Members: a set's bytes, rising; the document's likewise, of flags. -/
namespace Go.Proofs.YtmjojahkbjlcdaaDoor
set_option linter.unusedSimpArgs false
set_option linter.unusedVariables false
set_option maxRecDepth 100000
open Go.RowKit

/-- The first k numbers that are in f, as bytes. -/
def mem (f : Nat → Bool) : Nat → List UInt8
  | 0 => []
  | k + 1 => if f k then mem f k ++ [UInt8.ofNat k] else mem f k
theorem mem_len (f : Nat → Bool) : ∀ k, (mem f k).length = cntF f k
  | 0 => rfl
  | k + 1 => by
    have := mem_len f k
    simp only [mem, cntF]
    cases f k <;> simp [this]
theorem byteCells_snoc (l : List UInt8) (k : Nat) (hk : k < 256) : Lib.byteCells (l ++ [UInt8.ofNat k]) = Lib.byteCells l ++ [.int .u8 (k : Int)] := by
  simp [Lib.byteCells]; omega
theorem byteCells_len (l : List UInt8) : (Lib.byteCells l).length = l.length := by simp [Lib.byteCells]

theorem IsBuilderF.up {T e : TypeId} {B b : Nat} {bs : List Value} {w w' : World} (h : Lib.IsBuilderF T e B b bs w) (hb : Below w.heap.size w w') : Lib.IsBuilderF T e B b bs w' := by
  have key : ∀ p, Lib.BuilderAtF T e B b p bs w → Lib.BuilderAtF T e B b p bs w' := by
    rintro p ⟨hB, v, hbk, hown, hne⟩
    have hlt := (Array.getElem?_eq_some_iff.1 hbk).1
    refine ⟨hB, v, (hb.block _ hlt).trans hbk, hown.kept (row := none) ⟨hb.os, hb.tape, hb.output, hb.size, fun k hk _ => hb.block k hk⟩ ?_, hne⟩
    cases v.ownBlock with
    | none => exact .inl rfl
    | some k => exact .inr (by simp)
  exact h.elim (fun x => .inl (key _ x)) (fun x => .inr (key _ x))
theorem IsBuilderF.lt {T e : TypeId} {B b : Nat} {bs : List Value} {w : World} (h : Lib.IsBuilderF T e B b bs w) : b < w.heap.size := h.elim (·.lt) (·.lt)
/-- A builder at block b that holds the bytes l. -/
def Bd (B b : Nat) (l : List UInt8) (w : World) : Prop := Lib.IsBuilderF 58 5 B b (Lib.byteCells l) w
theorem Bd.up {B b : Nat} {l : List UInt8} {w w' : World} (h : Bd B b l w) (hb : Below w.heap.size w w') : Bd B b l w' := IsBuilderF.up h hb
theorem Bd.lt {B b : Nat} {l : List UInt8} {w : World} (h : Bd B b l w) : b < w.heap.size := IsBuilderF.lt h
theorem Bd.fresh (w : World) : Bd w.heap.size w.heap.size [] (w.alloc (.cells #[.pointer none, .slice none 0 0] 58)) := Lib.IsBuilderF.of (Lib.fresh_isBuilder 58 5 w)
theorem Bd.byte {B b : Nat} {l : List UInt8} {w : World} (h : Bd B b l w) (k : Nat) (hk : k < 256) (hl : l.length < 1000000) (hBw : B ≤ w.heap.size) :
    Calls Tryd.prog 53 #[.pointer (some ⟨b, 0, none⟩), .int .u8 k] w fun e w' => e = .returned .nilIface ∧ Bd B b (l ++ [UInt8.ofNat k]) w' ∧ Below B w w' ∧ Lib.OthersKept 5 (some b) w w' := by
  refine (Tryd.Builder_WriteByte_k B b (Lib.byteCells l) k w h (by rw [byteCells_len]; omega) hBw).mono ?_
  rintro e w' ⟨rfl, h1, h2, h3⟩
  refine ⟨rfl, ?_, h2, h3⟩
  unfold Bd
  rw [byteCells_snoc l k hk]
  exact .inr h1
theorem Bd.string {B b : Nat} {l : List UInt8} {w : World} (h : Bd B b l w) (hBw : B ≤ w.heap.size) :
    Calls Tryd.prog 41 #[.pointer (some ⟨b, 0, none⟩)] w fun e w' => e = .returned (.string ⟨l.toArray⟩) ∧ Below B w w' := by
  refine (Tryd.Builder_String_any_k B b l w h hBw).mono ?_
  rintro e w' ⟨rfl, h1, h2, h3⟩
  exact ⟨rfl, h2⟩

set_option maxHeartbeats 4000000 in
theorem members_any (f : Nat → Bool) (w : World) :
    Calls Tryd.prog 73 #[setV f] w fun e w' => e = .returned (.string ⟨(mem f 256).toArray⟩) ∧ Below w.heap.size w w' := by
  have S0 := Lib.hid ((Sb.start w).alloc (.cells (wc f) 24))
  have B0 := Lib.hid (Bd.fresh (w.alloc (.cells (wc f) 24)))
  obtain ⟨G, hG⟩ : ∃ G, mem f 256 = G := ⟨_, rfl⟩
  rw [hG]
  have hG' := Lib.hid hG
  clear hG
  go_enter Tryd.func73, Tryd.ntmps73
  go_wp2
  go_loopw [6] (fun i wr => ∃ k : Nat, k ≤ 256 ∧ i = .int .i64 k ∧ Sb w wr [(w.heap.size, .cells (wc f) 24)] ∧ Bd (w.heap.size + 1) (w.heap.size + 1) (mem f k) wr) (fun i _ => 256 - (intOf i).toNat)
  case atStart => exact ⟨0, by omega, rfl, by simpa [wc] using S0.out.up ((Below.refl _ _).alloc (Nat.le_refl _) _), by simpa [wc, mem] using B0.out⟩
  case round =>
    obtain ⟨k, hk, rfl, hS, hB⟩ := hrel
    have HS := Lib.hid hS
    have HB := Lib.hid hB
    clear hS hB
    by_cases hlt : k < 256
    · have hlt' : (k : Int) < 256 := by omega
      have hm : (k : Int) % 256 = k := by omega
      have c0 := HS.out.word 0 (by omega)
      have c1 := HS.out.word 1 (by omega)
      have c2 := HS.out.word 2 (by omega)
      have c3 := HS.out.word 3 (by omega)
      have hh := Lib.hid (has_any f k hlt)
      have hs : mem f (k + 1) = if f k then mem f k ++ [UInt8.ofNat k] else mem f k := rfl
      have hl : (mem f k).length < 1000000 := by rw [mem_len]; have := cnt_le f k; omega
      generalize mem f k = l at *
      cases hf : f k
      · rw [hf] at hh hs
        have hs' := Lib.hid hs
        clear hs hf
        go_wp2_with fail
        refine (hh.out _).mono ?_
        rintro _ w2 ⟨rfl, hb⟩
        have HS2 := Lib.hid (HS.out.up hb)
        have HB2 := Lib.hid (HB.out.up hb)
        clear c0 c1 c2 c3 hb
        go_wp2
        go_roundw
        case rel => exact ⟨k + 1, by omega, by go_num, HS2.out, by rw [hs'.out]; exact HB2.out⟩
        case measure => simp [intOf]; omega
      · rw [hf] at hh hs
        have hs' := Lib.hid hs
        clear hs hf
        go_wp2_with fail
        refine (hh.out _).mono ?_
        rintro _ w2 ⟨rfl, hb⟩
        have HS2 := Lib.hid (HS.out.up hb)
        have HB2 := Lib.hid (HB.out.up hb)
        clear c0 c1 c2 c3 hb
        go_wp2_with fail
        refine (HB2.out.byte k hlt hl (by have := HB2.out.lt; omega)).mono ?_
        rintro _ w3 ⟨rfl, hB3, hb3, ho3⟩
        have HS3 := Lib.hid (HS2.out.others (hb3.mono (by omega)) ho3 (by simp))
        have HB3 := Lib.hid hB3
        clear hB3 hb3 ho3
        go_wp2
        go_roundw
        case rel => exact ⟨k + 1, by omega, by go_num, HS3.out, by rw [hs'.out]; exact HB3.out⟩
        case measure => simp [intOf]; omega
    · obtain rfl : k = 256 := by omega
      rw [hG'.out] at HB
      go_wp2_with fail
      refine (HB.out.string (by have := HB.out.lt; omega)).mono ?_
      rintro _ w2 ⟨rfl, hb⟩
      have hE := Lib.hid (HS.out.1.trans (hb.mono (by omega)))
      clear hb
      go_wp2
      go_ret
      exact ⟨rfl, hE.out⟩
end Go.Proofs.YtmjojahkbjlcdaaDoor
end
section
/- runs: the stretches of a set. -/
namespace Go.Proofs.YtmjojahkbjlcdaaDoor
set_option linter.unusedSimpArgs false
set_option linter.unusedVariables false
set_option maxRecDepth 100000
open Go.RowKit

def rc (R : List (Nat × Nat)) : List Value := R.flatMap fun x => [.int .u8 x.1, .int .u8 x.2]
theorem rc_len : ∀ R, (rc R).length = R.length * 2
  | [] => rfl
  | x :: r => by
    have := rc_len r
    simp only [rc, List.flatMap_cons, List.length_append, List.length_cons, List.length_nil] at this ⊢
    omega
theorem rc_app (R S : List (Nat × Nat)) : rc (R ++ S) = rc R ++ rc S := by simp [rc]
theorem rc_one (a b : Nat) : rc [(a, b)] = [.int .u8 a, .int .u8 b] := rfl
theorem rc_set (R : List (Nat × Nat)) (a b k : Nat) : (rc (R ++ [(a, b)])).set (R.length * 2 + 1) (.int .u8 k) = rc (R ++ [(a, k)]) := by
  rw [rc_app, rc_app, rc_one, rc_one, List.set_append_right _ _ (by rw [rc_len]; omega), rc_len]
  rw [show R.length * 2 + 1 - R.length * 2 = 1 by omega]; rfl
theorem rc_get (R : List (Nat × Nat)) (a b : Nat) : (rc (R ++ [(a, b)]))[R.length * 2 + 1]? = some (.int .u8 b) := by
  rw [rc_app, rc_one, List.getElem?_append_right (by rw [rc_len]; omega), rc_len]
  rw [show R.length * 2 + 1 - R.length * 2 = 1 by omega]; rfl
theorem info63 : (Tryd.prog.info? 117).map (fun i => (i.zero, i.size, i.bytes)) = some (some (.agg #[.int .u8 0, .int .u8 0]), 2, 2) := by kernel_rfl
theorem Sb.grown {w0 w w' : World} {L : List (Nat × Obj)} {row : Option Nat} (h : Sb w0 w L) (hg : w.grownBy w' row) (hrow : ∀ g, row = some g → w0.heap.size ≤ g ∧ ∀ c ∈ L, c.1 ≠ g) : Sb w0 w' L := by
  refine ⟨⟨hg.os.trans h.1.os, hg.tape.trans h.1.tape, hg.output.trans h.1.output, Nat.le_trans h.1.size hg.size, fun k hk => ?_⟩, fun c hc => ?_⟩
  · refine (hg.block k (Nat.lt_of_lt_of_le hk h.1.size) (fun e => ?_)).trans (h.1.block k hk)
    have := (hrow k e.symm).1; omega
  · refine ⟨(h.2 c hc).1, (hg.block c.1 (Array.getElem?_eq_some_iff.1 (h.2 c hc).2).1 (fun e => ?_)).trans (h.2 c hc).2⟩
    exact (hrow c.1 e.symm).2 c hc rfl
/-- The row of a set's stretches. -/
def Own (w0 : World) (R : List (Nat × Nat)) (v : Value) (w : World) : Prop := w.ownsRow (w0.heap.size + 1) 117 2 v R.length (rc R)
theorem Own.up {w0 w w' : World} {R : List (Nat × Nat)} {v : Value} (h : Own w0 R v w) (hb : Below w.heap.size w w') : Own w0 R v w' :=
  World.ownsRow.kept h (row := none) ⟨hb.os, hb.tape, hb.output, hb.size, fun k hk _ => hb.block k hk⟩ (by cases v.ownBlock <;> simp)
def RunsP (f : Nat → Bool) (w : World) (e : Ending) (w' : World) : Prop := ∃ v, e = .returned v ∧ Own w (runsF f 256) v w' ∧ Below w.heap.size w w'
set_option maxHeartbeats 8000000 in
set_option maxRecDepth 100000 in
theorem runs_any (f : Nat → Bool) (w : World) : Calls Tryd.prog 95 #[setV f] w (RunsP f w) := by
  obtain ⟨i0, hi, hz0, hz1, hz2⟩ := info_parts info63
  have S0 := Lib.hid ((Sb.start w).alloc (.cells (wc f) 24))
  go_enter Tryd.func95, Tryd.ntmps95
  go_wp2
  go_loopw [3, 6] (fun v i wr => ∃ k : Nat, k ≤ 256 ∧ i = .int .i64 k ∧ Sb w wr [(w.heap.size, .cells (wc f) 24)] ∧ Own w (runsF f k) v wr) (fun _ i _ => 256 - (intOf i).toNat)
  case atStart => exact ⟨0, by omega, rfl, S0.out, World.ownsRow_nil _ _ _ _⟩
  case round =>
    obtain ⟨k, hk, rfl, hS, hO⟩ := hrel
    have HS := Lib.hid hS
    have HO := Lib.hid hO
    clear hS hO
    by_cases hlt : k < 256
    · have hlt' : (k : Int) < 256 := by omega
      have hm : (k : Int) % 256 = k := by omega
      have c0 := HS.out.word 0 (by omega); have c1 := HS.out.word 1 (by omega); have c2 := HS.out.word 2 (by omega); have c3 := HS.out.word 3 (by omega)
      have hh := Lib.hid (has_any f k hlt)
      cases hf : f k
      · have HN := Lib.hid (runs_no f k hf)
        rw [hf] at hh
        clear hf
        go_wp2_with fail
        refine (hh.out _).mono ?_
        rintro _ w2 ⟨rfl, hb⟩
        have HS2 := Lib.hid (HS.out.up hb)
        have HO2 := Lib.hid (HO.out.up hb)
        clear c0 c1 c2 c3 hb
        go_wp2
        go_roundw
        case rel => exact ⟨k + 1, by omega, by go_num, HS2.out, by rw [HN.out]; exact HO2.out⟩
        case measure => simp [intOf]; omega
      · rw [hf] at hh
        by_cases hk0 : k = 0
        · have HN := Lib.hid (runs_new f k hf (.inl hk0))
          have hkn : ¬ (0 : Int) < (k : Int) := by omega
          clear hf hk0
          go_wp2_with fail
          refine (hh.out _).mono ?_
          rintro _ w2 ⟨rfl, hb⟩
          have HS2 := Lib.hid (HS.out.up hb)
          have HO2 := Lib.hid (HO.out.up hb)
          clear c0 c1 c2 c3 hb
          have hlen3 : (runsF f k).length + 1 ≤ 256 := by have := runs_count f k; omega
          go_wp2_with (at_builtin; refine wpList_append_own _ rfl (.tmp 30) (.tmp 34) 114 rfl (w.heap.size + 1) 117 i0 (.agg #[.int .u8 0, .int .u8 0]) 2 2 Tryd.underlying114 hi hz0 hz1 hz2 rfl (by decide) u3 (runsF f k).length (rc (runsF f k)) rfl ?c0 ⟨w2.heap.size, 0, none⟩ 1 1 (rc [(k, k)]) rfl rfl ?c1 ?c2 ?c3 ?c4 ?c5 ?_)
          case c0 => exact World.ownsRow.alloc HO2.out _
          case c1 =>
            intro j u hj
            match j, hj with
            | 0, hj => simp [rc] at hj; subst hj; simp [Addr.add]
            | 1, hj => simp [rc] at hj; subst hj; simp [Addr.add]
            | j + 2, hj => simp [rc] at hj
          case c2 => intro u hu; simp [rc] at hu; rcases hu with rfl | rfl <;> rfl
          case c3 => unfold maxLen; omega
          case c4 => omega
          case c5 => have := HS2.out.lt; simp; omega
          intro v' w7 hown7 hgrow7 _
          have HS7 := Lib.hid ((HS2.out.up ((Below.refl _ _).alloc (Nat.le_refl _) _)).grown hgrow7 (fun g hg => by have := (World.ownsRow.lt HO2.out g hg).1; exact ⟨by omega, by simp; omega⟩))
          have HO7 := Lib.hid hown7
          rw [← rc_app] at HO7
          clear hown7 hgrow7
          go_wp2
          go_roundw
          case rel => exact ⟨k + 1, by omega, by go_num, HS7.out, by unfold Own; rw [HN.out]; simpa using HO7.out⟩
          case measure => simp [intOf]; omega
        · have hh1 := Lib.hid (has_any f (k - 1) (by omega))
          have hk1 : (((k - 1 : Nat)) : Int) = (k : Int) - 1 := by omega
          rw [hk1] at hh1
          clear hk1
          have hk0 : (0 : Int) < (k : Int) := by omega
          cases hp : f (k - 1)
          · have HN := Lib.hid (runs_new f k hf (.inr hp))
            rw [hp] at hh1
            clear hf hp
            go_wp2_with fail
            refine (hh.out _).mono ?_
            rintro _ w1 ⟨rfl, hb⟩
            have HS1 := Lib.hid (HS.out.up hb)
            have HO1 := Lib.hid (HO.out.up hb)
            clear c0 c1 c2 c3 hb
            have c0 := HS1.out.word 0 (by omega); have c1 := HS1.out.word 1 (by omega); have c2 := HS1.out.word 2 (by omega); have c3 := HS1.out.word 3 (by omega)
            go_wp2_with fail
            refine (hh1.out _).mono ?_
            rintro _ w2 ⟨rfl, hb⟩
            have HS2 := Lib.hid (HS1.out.up hb)
            have HO2 := Lib.hid (HO1.out.up hb)
            clear c0 c1 c2 c3 hb
            have hlen3 : (runsF f k).length + 1 ≤ 256 := by have := runs_count f k; omega
            go_wp2_with (at_builtin; refine wpList_append_own _ rfl (.tmp 30) (.tmp 34) 114 rfl (w.heap.size + 1) 117 i0 (.agg #[.int .u8 0, .int .u8 0]) 2 2 Tryd.underlying114 hi hz0 hz1 hz2 rfl (by decide) u3 (runsF f k).length (rc (runsF f k)) rfl ?c0 ⟨w2.heap.size, 0, none⟩ 1 1 (rc [(k, k)]) rfl rfl ?c1 ?c2 ?c3 ?c4 ?c5 ?_)
            case c0 => exact World.ownsRow.alloc HO2.out _
            case c1 =>
              intro j u hj
              match j, hj with
              | 0, hj => simp [rc] at hj; subst hj; simp [Addr.add]
              | 1, hj => simp [rc] at hj; subst hj; simp [Addr.add]
              | j + 2, hj => simp [rc] at hj
            case c2 => intro u hu; simp [rc] at hu; rcases hu with rfl | rfl <;> rfl
            case c3 => unfold maxLen; omega
            case c4 => omega
            case c5 => have := HS2.out.lt; simp; omega
            intro v' w7 hown7 hgrow7 _
            have HS7 := Lib.hid ((HS2.out.up ((Below.refl _ _).alloc (Nat.le_refl _) _)).grown hgrow7 (fun g hg => by have := (World.ownsRow.lt HO2.out g hg).1; exact ⟨by omega, by simp; omega⟩))
            have HO7 := Lib.hid hown7
            rw [← rc_app] at HO7
            clear hown7 hgrow7
            go_wp2
            go_roundw
            case rel => exact ⟨k + 1, by omega, by go_num, HS7.out, by unfold Own; rw [HN.out]; simpa using HO7.out⟩
            case measure => simp [intOf]; omega
          · obtain ⟨R, a, hR, ha⟩ := runs_last f k (by omega) hp
            have HN := Lib.hid (runs_on f k (by omega) hf hp R a hR)
            rw [hp] at hh1
            clear hf hp
            go_wp2_with fail
            refine (hh.out _).mono ?_
            rintro _ w1 ⟨rfl, hb⟩
            have HS1 := Lib.hid (HS.out.up hb)
            have HO1 := Lib.hid (HO.out.up hb)
            clear c0 c1 c2 c3 hb
            have c0 := HS1.out.word 0 (by omega); have c1 := HS1.out.word 1 (by omega); have c2 := HS1.out.word 2 (by omega); have c3 := HS1.out.word 3 (by omega)
            go_wp2_with fail
            refine (hh1.out _).mono ?_
            rintro _ w2 ⟨rfl, hb⟩
            have HS2 := Lib.hid (HS1.out.up hb)
            have hO2 := HO1.out.up hb
            clear c0 c1 c2 c3 hb
            have hcnt : R.length + 1 ≤ 256 := by have := runs_count f k; rw [hR] at this; simp at this; omega
            unfold Own at hO2
            rw [hR] at hO2
            simp only [List.length_append, List.length_cons, List.length_nil] at hO2
            rcases hO2.2 with ⟨_, h0⟩ | ⟨g, cap, cur, hv, hbg, hgh, hnc, hcm, hcs, htk⟩
            · omega
            · subst hv
              have c9 := (hO2.cellAt (R.length * 2 + 1) (by omega)).trans (rc_get R a (k - 1))
              have f9 := hO2.frozenAt (R.length * 2 + 1)
              have z9 : g < w2.heap.size := (Array.getElem?_eq_some_iff.1 hgh).1
              have hst := Lib.hid (hO2.stored (R.length * 2 + 1) (.int .u8 k))
              have HS7 := Lib.hid (HS2.out.grown hst.out.2 (fun g' hg' => by cases hg'; exact ⟨by omega, by simp; omega⟩))
              clear hO2 hgh hcs htk hR
              go_wp2
              go_roundw
              case rel => exact ⟨k + 1, by omega, by go_num, HS7.out, by unfold Own; rw [HN.out]; have hst1 := hst.out.1; rw [rc_set] at hst1; simpa using hst1⟩
              case measure => simp [intOf]; omega
    · obtain rfl : k = 256 := by omega
      go_wp2
      go_ret
      exact ⟨_, rfl, HO.out, HS.out.1⟩
end Go.Proofs.YtmjojahkbjlcdaaDoor
end
