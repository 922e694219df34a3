/- Members: a set's bytes, rising; the document's likewise, of flags. -/
import Derived.Test.YtennflnfjjhgpaaProg
import Derived.Test.YtennflnfjjhgpaaSb
import Derived.WalkKit
import Derived.WalkLawsBesides
import Derived.WalkSpells
import Derived.Outline
import Derived.Lib.Walk
import Derived.Lib.Hide
import Derived.RegionTactic
import Derived.LoopTactic
import Derived.Below
import Derived.Laws.AppendOwn
import Derived.Lib.BufferRead
import Derived.Laws.IdiomStrings
import Derived.IntWalk
import Derived.Laws.ResultCell
namespace Go.Proofs.Ytennflnfjjhgpaa
set_option linter.unusedSimpArgs false
set_option linter.unusedVariables false
open Go.RowKit

/-- The first k numbers that are in f, as bytes. -/
def mem (f : Nat → Bool) : Nat → List UInt8
  | 0 => []
  | k + 1 => if f k then mem f k ++ [UInt8.ofNat k] else mem f k
theorem mem_len (f : Nat → Bool) : ∀ k, (mem f k).length = cntF f k
  | 0 => rfl
  | k + 1 => by
    have := mem_len f k
    simp only [mem, cntF]
    cases f k <;> simp [this]
theorem byteCells_snoc (l : List UInt8) (k : Nat) (hk : k < 256) : Lib.byteCells (l ++ [UInt8.ofNat k]) = Lib.byteCells l ++ [.int .u8 (k : Int)] := by
  simp [Lib.byteCells]; omega
theorem byteCells_len (l : List UInt8) : (Lib.byteCells l).length = l.length := by simp [Lib.byteCells]

theorem IsBuilderF.up {T e : TypeId} {B b : Nat} {bs : List Value} {w w' : World} (h : Lib.IsBuilderF T e B b bs w) (hb : Below w.heap.size w w') : Lib.IsBuilderF T e B b bs w' := by
  have key : ∀ p, Lib.BuilderAtF T e B b p bs w → Lib.BuilderAtF T e B b p bs w' := by
    rintro p ⟨hB, v, hbk, hown, hne⟩
    have hlt := (Array.getElem?_eq_some_iff.1 hbk).1
    refine ⟨hB, v, (hb.block _ hlt).trans hbk, hown.kept (row := none) ⟨hb.os, hb.tape, hb.output, hb.size, fun k hk _ => hb.block k hk⟩ ?_, hne⟩
    cases v.ownBlock with
    | none => exact .inl rfl
    | some k => exact .inr (by simp)
  exact h.elim (fun x => .inl (key _ x)) (fun x => .inr (key _ x))
theorem IsBuilderF.lt {T e : TypeId} {B b : Nat} {bs : List Value} {w : World} (h : Lib.IsBuilderF T e B b bs w) : b < w.heap.size := h.elim (·.lt) (·.lt)
/-- A builder at block b that holds the bytes l. -/
def Bd (B b : Nat) (l : List UInt8) (w : World) : Prop := Lib.IsBuilderF 54 5 B b (Lib.byteCells l) w
theorem Bd.up {B b : Nat} {l : List UInt8} {w w' : World} (h : Bd B b l w) (hb : Below w.heap.size w w') : Bd B b l w' := IsBuilderF.up h hb
theorem Bd.lt {B b : Nat} {l : List UInt8} {w : World} (h : Bd B b l w) : b < w.heap.size := IsBuilderF.lt h
theorem Bd.fresh (w : World) : Bd w.heap.size w.heap.size [] (w.alloc (.cells #[.pointer none, .slice none 0 0] 54)) := Lib.IsBuilderF.of (Lib.fresh_isBuilder 54 5 w)
theorem Bd.byte {B b : Nat} {l : List UInt8} {w : World} (h : Bd B b l w) (k : Nat) (hk : k < 256) (hl : l.length < 1000000) (hBw : B ≤ w.heap.size) :
    Calls Try.prog 29 #[.pointer (some ⟨b, 0, none⟩), .int .u8 k] w fun e w' => e = .returned .nilIface ∧ Bd B b (l ++ [UInt8.ofNat k]) w' ∧ Below B w w' ∧ Lib.OthersKept 5 (some b) w w' := by
  refine (Try.Builder_WriteByte_k B b (Lib.byteCells l) k w h (by rw [byteCells_len]; omega) hBw).mono ?_
  rintro e w' ⟨rfl, h1, h2, h3⟩
  refine ⟨rfl, ?_, h2, h3⟩
  unfold Bd
  rw [byteCells_snoc l k hk]
  exact .inr h1
theorem Bd.string {B b : Nat} {l : List UInt8} {w : World} (h : Bd B b l w) (hBw : B ≤ w.heap.size) :
    Calls Try.prog 30 #[.pointer (some ⟨b, 0, none⟩)] w fun e w' => e = .returned (.string ⟨l.toArray⟩) ∧ Below B w w' := by
  refine (Try.Builder_String_any_k B b l w h hBw).mono ?_
  rintro e w' ⟨rfl, h1, h2, h3⟩
  exact ⟨rfl, h2⟩

set_option maxHeartbeats 4000000 in
theorem members_any (f : Nat → Bool) (w : World) :
    Calls Try.prog 15 #[setV f] w fun e w' => e = .returned (.string ⟨(mem f 256).toArray⟩) ∧ Below w.heap.size w w' := by
  have S0 := Lib.hid ((Sb.start w).alloc (.cells (wc f) 24))
  have B0 := Lib.hid (Bd.fresh (w.alloc (.cells (wc f) 24)))
  obtain ⟨G, hG⟩ : ∃ G, mem f 256 = G := ⟨_, rfl⟩
  rw [hG]
  have hG' := Lib.hid hG
  clear hG
  go_enter Try.func15, Try.ntmps15
  go_wp2
  go_loopw [6] (fun i wr => ∃ k : Nat, k ≤ 256 ∧ i = .int .i64 k ∧ Sb w wr [(w.heap.size, .cells (wc f) 24)] ∧ Bd (w.heap.size + 1) (w.heap.size + 1) (mem f k) wr) (fun i _ => 256 - (intOf i).toNat)
  case atStart => exact ⟨0, by omega, rfl, by simpa [wc] using S0.out.up ((Below.refl _ _).alloc (Nat.le_refl _) _), by simpa [wc, mem] using B0.out⟩
  case round =>
    obtain ⟨k, hk, rfl, hS, hB⟩ := hrel
    have HS := Lib.hid hS
    have HB := Lib.hid hB
    clear hS hB
    by_cases hlt : k < 256
    · have hlt' : (k : Int) < 256 := by omega
      have hm : (k : Int) % 256 = k := by omega
      have c0 := HS.out.word 0 (by omega)
      have c1 := HS.out.word 1 (by omega)
      have c2 := HS.out.word 2 (by omega)
      have c3 := HS.out.word 3 (by omega)
      have hh := Lib.hid (has_any f k hlt)
      have hs : mem f (k + 1) = if f k then mem f k ++ [UInt8.ofNat k] else mem f k := rfl
      have hl : (mem f k).length < 1000000 := by rw [mem_len]; have := cnt_le f k; omega
      generalize mem f k = l at *
      cases hf : f k
      · rw [hf] at hh hs
        have hs' := Lib.hid hs
        clear hs hf
        go_wp2_with fail
        refine (hh.out _).mono ?_
        rintro _ w2 ⟨rfl, hb⟩
        have HS2 := Lib.hid (HS.out.up hb)
        have HB2 := Lib.hid (HB.out.up hb)
        clear c0 c1 c2 c3 hb
        go_wp2
        go_roundw
        case rel => exact ⟨k + 1, by omega, by go_num, HS2.out, by rw [hs'.out]; exact HB2.out⟩
        case measure => simp [intOf]; omega
      · rw [hf] at hh hs
        have hs' := Lib.hid hs
        clear hs hf
        go_wp2_with fail
        refine (hh.out _).mono ?_
        rintro _ w2 ⟨rfl, hb⟩
        have HS2 := Lib.hid (HS.out.up hb)
        have HB2 := Lib.hid (HB.out.up hb)
        clear c0 c1 c2 c3 hb
        go_wp2_with fail
        refine (HB2.out.byte k hlt hl (by have := HB2.out.lt; omega)).mono ?_
        rintro _ w3 ⟨rfl, hB3, hb3, ho3⟩
        have HS3 := Lib.hid (HS2.out.others (hb3.mono (by omega)) ho3 (by simp))
        have HB3 := Lib.hid hB3
        clear hB3 hb3 ho3
        go_wp2
        go_roundw
        case rel => exact ⟨k + 1, by omega, by go_num, HS3.out, by rw [hs'.out]; exact HB3.out⟩
        case measure => simp [intOf]; omega
    · obtain rfl : k = 256 := by omega
      rw [hG'.out] at HB
      go_wp2_with fail
      refine (HB.out.string (by have := HB.out.lt; omega)).mono ?_
      rintro _ w2 ⟨rfl, hb⟩
      have hE := Lib.hid (HS.out.1.trans (hb.mono (by omega)))
      clear hb
      go_wp2
      go_ret
      exact ⟨rfl, hE.out⟩
end Go.Proofs.Ytennflnfjjhgpaa
