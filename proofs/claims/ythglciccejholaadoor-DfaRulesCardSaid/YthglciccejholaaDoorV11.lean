/- Texts of package regs, one behind the other. -/
import Derived.Shelf.Strings.BuilderK
import Derived.Shelf.Lays
import Derived.Shelf.LaysM
import Derived.Test.YthglciccejholaaDoorProg
import Derived.Test.YthglciccejholaaDoorV8
import Derived.WalkKit
import Derived.WalkLawsBesides
import Derived.WalkSpells
import Derived.Outline
import Derived.Lib.Walk
import Derived.Lib.Hide
import Derived.RegionTactic
import Derived.LoopTactic
import Derived.Below
import Derived.Laws.AppendOwn
import Derived.Lib.BufferRead
import Derived.Laws.IdiomStrings
import Derived.IntWalk
import Derived.Laws.ResultCell
section
/- Contracts of Go's library that the walks of this seat call, laid at its numbers. -/
namespace Go.Proofs
open Go.Shelf
def Tryd.sren : Go.Shelf.Ren := ⟨fun | 167 => 121 | 169 => 122 | 240 => 125 | 276 => 126 | n => n, fun | 0 => 0 | 3 => 3 | 4 => 4 | 5 => 5 | 9 => 9 | 20 => 20 | 37 => 159 | 70 => 170 | 72 => 172 | 75 => 174 | 80 => 176 | 127 => 182 | 164 => 183 | n => n, fun | n => n⟩
theorem Tryd.lay_Lays_n167 : Go.Proofs.Lays.n167 Tryd.prog Tryd.sren := {
  mixed := by kernel_rfl
  f167 := Tryd.func121.trans (congrArg some (by kernel_rfl))
  f240 := Tryd.func125.trans (congrArg some (by kernel_rfl))
  f276 := Tryd.func126.trans (congrArg some (by kernel_rfl))
  t0 := Tryd.underlying0
  a0 := Tryd.isAgg0
  z0 := Tryd.sizeOf0
  v0 := Tryd.zeroValue0
  t4 := Tryd.underlying4
  a4 := Tryd.isAgg4
  z4 := Tryd.sizeOf4
  v4 := Tryd.zeroValue4
  t5 := Tryd.underlying5
  a5 := Tryd.isAgg5
  z5 := Tryd.sizeOf5
  v5 := Tryd.zeroValue5
  t9 := Tryd.underlying9
  a9 := Tryd.isAgg9
  z9 := Tryd.sizeOf9
  v9 := Tryd.zeroValue9
  t20 := Tryd.underlying20
  a20 := Tryd.isAgg20
  z20 := Tryd.sizeOf20
  v20 := Tryd.zeroValue20
  t37 := Tryd.underlying159
  a37 := Tryd.isAgg159
  z37 := Tryd.sizeOf159
  v37 := Tryd.zeroValue159
  t70 := Tryd.underlying170
  a70 := Tryd.isAgg170
  z70 := Tryd.sizeOf170
  v70 := Tryd.zeroValue170
  t72 := Tryd.underlying172
  a72 := Tryd.isAgg172
  z72 := Tryd.sizeOf172
  v72 := Tryd.zeroValue172
  t75 := Tryd.underlying174
  a75 := Tryd.isAgg174
  z75 := Tryd.sizeOf174
  v75 := Tryd.zeroValue174
  t164 := Tryd.underlying183
  a164 := Tryd.isAgg183
  z164 := Tryd.sizeOf183
  v164 := Tryd.zeroValue183 }
theorem Tryd.bExtra : Builder.Extra Tryd.prog Tryd.sren := {
  sizeBuilder := by kernel_rfl
  liesBuilder := by kernel_rfl
  t5 := Tryd.underlying5
  a5 := Tryd.isAgg5
  z5 := Tryd.sizeOf5
  v5 := Tryd.zeroValue5
  infoByte := by kernel_rfl
  cellsByte := by kernel_rfl
  sizeByte := by kernel_rfl
  neB5 := by decide }
open Go.RowKit in
theorem Tryd.Builder_WriteByte_k (B b : Nat) (bs : List Value) (c : Int) (w : World) (h : Lib.IsBuilderF 172 5 B b bs w) (hlen : bs.length + 1 ≤ 140737488355328) (hBw : B ≤ w.heap.size) :
    Calls Tryd.prog 121 #[.pointer (some ⟨b, 0, none⟩), .int .u8 c] w fun e w' => e = .returned .nilIface ∧ (Lib.BuilderAtF 172 5 B b (.pointer (some ⟨b, 0, none⟩)) (bs ++ [.int .u8 c]) w' ∧ Below B w w' ∧ Lib.OthersKept 5 (some b) w w') := Any.Builder_WriteByte_k Tryd.lay_Lays_n167 Tryd.bExtra B b bs c w h hlen hBw
theorem Tryd.lay_Lays_n169 : Go.Proofs.Lays.n169 Tryd.prog Tryd.sren := {
  mixed := by kernel_rfl
  f169 := Tryd.func122.trans (congrArg some (by kernel_rfl))
  t0 := Tryd.underlying0
  a0 := Tryd.isAgg0
  z0 := Tryd.sizeOf0
  v0 := Tryd.zeroValue0
  t3 := Tryd.underlying3
  a3 := Tryd.isAgg3
  z3 := Tryd.sizeOf3
  v3 := Tryd.zeroValue3
  t9 := Tryd.underlying9
  a9 := Tryd.isAgg9
  z9 := Tryd.sizeOf9
  v9 := Tryd.zeroValue9
  t37 := Tryd.underlying159
  a37 := Tryd.isAgg159
  z37 := Tryd.sizeOf159
  v37 := Tryd.zeroValue159
  t70 := Tryd.underlying170
  a70 := Tryd.isAgg170
  z70 := Tryd.sizeOf170
  v70 := Tryd.zeroValue170
  t72 := Tryd.underlying172
  a72 := Tryd.isAgg172
  z72 := Tryd.sizeOf172
  v72 := Tryd.zeroValue172
  t127 := Tryd.underlying182
  a127 := Tryd.isAgg182
  z127 := Tryd.sizeOf182
  v127 := Tryd.zeroValue182 }
open Go.RowKit in
theorem Tryd.Builder_String_any_k (B b : Nat) (l : List UInt8) (w : World) (h : Lib.IsBuilderF 172 5 B b (Lib.byteCells l) w) (hBw : B ≤ w.heap.size) :
    Calls Tryd.prog 122 #[.pointer (some ⟨b, 0, none⟩)] w fun e w' => e = .returned (.string ⟨l.toArray⟩) ∧ (Lib.IsBuilderF 172 5 B b (Lib.byteCells l) w' ∧ Below B w w' ∧ Lib.OthersKept 5 (some b) w w') := Any.Builder_String_any_k Tryd.lay_Lays_n169 Tryd.bExtra B b l w h hBw
end Go.Proofs
end
section
/- Members: a set's bytes, rising; the document's likewise, of flags. -/
namespace Go.Proofs.YthglciccejholaaDoor.R5
set_option linter.unusedSimpArgs false
set_option linter.unusedVariables false
set_option maxRecDepth 100000
open Go.RowKit

def wc (f : Nat → Bool) : Array Value := #[.int .u64 (W f 0), .int .u64 (W f 1), .int .u64 (W f 2), .int .u64 (W f 3)]
theorem _root_.Go.Proofs.YthglciccejholaaDoor.Sb.word {w0 w : World} {L : List (Nat × Obj)} {b : Nat} {f : Nat → Bool} {t : TypeId} {fr : Nat × Nat} (h : Sb w0 w ((b, .cells (wc f) t fr) :: L)) (j : Nat) (hj : j < 4) : w.cell? ⟨b, j, none⟩ = some (.int .u64 (W f j)) := by
  rw [h.cell j]; rcases (by omega : j = 0 ∨ j = 1 ∨ j = 2 ∨ j = 3) with rfl | rfl | rfl | rfl <;> rfl

/-- A builder's write: rows of other types, in other blocks than its own, are kept. -/
theorem _root_.Go.Proofs.YthglciccejholaaDoor.Sb.others {w0 w w' : World} {L : List (Nat × Obj)} {b : Nat} (h : Sb w0 w L) (hb : Below w0.heap.size w w') (ho : Lib.OthersKept 5 (some b) w w') (hne : ∀ c ∈ L, c.1 ≠ b ∧ ∀ cs fz, c.2 ≠ .cells cs 5 fz) : Sb w0 w' L :=
  ⟨h.1.trans hb, fun c hc => ⟨(h.2 c hc).1, ho c.1 c.2 (h.2 c hc).2 (fun e => (hne c hc).1 (Option.some.inj e)) (hne c hc).2⟩⟩
theorem byteCells_snoc (l : List UInt8) (k : Nat) (hk : k < 256) : Lib.byteCells (l ++ [UInt8.ofNat k]) = Lib.byteCells l ++ [.int .u8 (k : Int)] := by
  simp [Lib.byteCells]; omega
theorem byteCells_len (l : List UInt8) : (Lib.byteCells l).length = l.length := by simp [Lib.byteCells]

theorem IsBuilderF.up {T e : TypeId} {B b : Nat} {bs : List Value} {w w' : World} (h : Lib.IsBuilderF T e B b bs w) (hb : Below w.heap.size w w') : Lib.IsBuilderF T e B b bs w' := by
  have key : ∀ p, Lib.BuilderAtF T e B b p bs w → Lib.BuilderAtF T e B b p bs w' := by
    rintro p ⟨hB, v, hbk, hown, hne⟩
    have hlt := (Array.getElem?_eq_some_iff.1 hbk).1
    refine ⟨hB, v, (hb.block _ hlt).trans hbk, hown.kept (row := none) ⟨hb.os, hb.tape, hb.output, hb.size, fun k hk _ => hb.block k hk⟩ ?_, hne⟩
    cases v.ownBlock with
    | none => exact .inl rfl
    | some k => exact .inr (by simp)
  exact h.elim (fun x => .inl (key _ x)) (fun x => .inr (key _ x))
theorem IsBuilderF.lt {T e : TypeId} {B b : Nat} {bs : List Value} {w : World} (h : Lib.IsBuilderF T e B b bs w) : b < w.heap.size := h.elim (·.lt) (·.lt)
/-- A builder at block b that holds the bytes l. -/
def Bd (B b : Nat) (l : List UInt8) (w : World) : Prop := Lib.IsBuilderF 172 5 B b (Lib.byteCells l) w
theorem Bd.up {B b : Nat} {l : List UInt8} {w w' : World} (h : Bd B b l w) (hb : Below w.heap.size w w') : Bd B b l w' := IsBuilderF.up h hb
theorem Bd.lt {B b : Nat} {l : List UInt8} {w : World} (h : Bd B b l w) : b < w.heap.size := IsBuilderF.lt h
theorem Bd.fresh (w : World) : Bd w.heap.size w.heap.size [] (w.alloc (.cells #[.pointer none, .slice none 0 0] 172)) := Lib.IsBuilderF.of (Lib.fresh_isBuilder 172 5 w)
theorem Bd.byte {B b : Nat} {l : List UInt8} {w : World} (h : Bd B b l w) (k : Nat) (hk : k < 256) (hl : l.length < 1000000) (hBw : B ≤ w.heap.size) :
    Calls Tryd.prog 121 #[.pointer (some ⟨b, 0, none⟩), .int .u8 k] w fun e w' => e = .returned .nilIface ∧ Bd B b (l ++ [UInt8.ofNat k]) w' ∧ Below B w w' ∧ Lib.OthersKept 5 (some b) w w' := by
  refine (Tryd.Builder_WriteByte_k B b (Lib.byteCells l) k w h (by rw [byteCells_len]; omega) hBw).mono ?_
  rintro e w' ⟨rfl, h1, h2, h3⟩
  refine ⟨rfl, ?_, h2, h3⟩
  unfold Bd
  rw [byteCells_snoc l k hk]
  exact .inr h1
theorem Bd.string {B b : Nat} {l : List UInt8} {w : World} (h : Bd B b l w) (hBw : B ≤ w.heap.size) :
    Calls Tryd.prog 122 #[.pointer (some ⟨b, 0, none⟩)] w fun e w' => e = .returned (.string ⟨l.toArray⟩) ∧ Below B w w' := by
  refine (Tryd.Builder_String_any_k B b l w h hBw).mono ?_
  rintro e w' ⟨rfl, h1, h2, h3⟩
  exact ⟨rfl, h2⟩

set_option maxHeartbeats 4000000 in
theorem members_any (f : Nat → Bool) (w : World) :
    Calls Tryd.prog 112 #[setV f] w fun e w' => e = .returned (.string ⟨(mem f 256).toArray⟩) ∧ Below w.heap.size w w' := by
  have S0 := Lib.hid ((Sb.start w).alloc (.cells (wc f) 24))
  have B0 := Lib.hid (Bd.fresh (w.alloc (.cells (wc f) 24)))
  obtain ⟨G, hG⟩ : ∃ G, mem f 256 = G := ⟨_, rfl⟩
  rw [hG]
  have hG' := Lib.hid hG
  clear hG
  go_enter Tryd.func112, Tryd.ntmps112
  go_wp2
  go_loopw [6] (fun i wr => ∃ k : Nat, k ≤ 256 ∧ i = .int .i64 k ∧ Sb w wr [(w.heap.size, .cells (wc f) 24)] ∧ Bd (w.heap.size + 1) (w.heap.size + 1) (mem f k) wr) (fun i _ => 256 - (intOf i).toNat)
  case atStart => exact ⟨0, by omega, rfl, by simpa [wc] using S0.out.up ((Below.refl _ _).alloc (Nat.le_refl _) _), by simpa [wc, mem] using B0.out⟩
  case round =>
    obtain ⟨k, hk, rfl, hS, hB⟩ := hrel
    have HS := Lib.hid hS
    have HB := Lib.hid hB
    clear hS hB
    by_cases hlt : k < 256
    · have hlt' : (k : Int) < 256 := by omega
      have hm : (k : Int) % 256 = k := by omega
      have c0 := HS.out.word 0 (by omega)
      have c1 := HS.out.word 1 (by omega)
      have c2 := HS.out.word 2 (by omega)
      have c3 := HS.out.word 3 (by omega)
      have hh := Lib.hid (has_any f k hlt)
      have hs : mem f (k + 1) = if f k then mem f k ++ [UInt8.ofNat k] else mem f k := rfl
      have hl : (mem f k).length < 1000000 := by rw [mem_len]; have := cnt_le f k; omega
      generalize mem f k = l at *
      cases hf : f k
      · rw [hf] at hh hs
        have hs' := Lib.hid hs
        clear hs hf
        go_wp2_with fail
        refine (hh.out _).mono ?_
        rintro _ w2 ⟨rfl, hb⟩
        have HS2 := Lib.hid (HS.out.up hb)
        have HB2 := Lib.hid (HB.out.up hb)
        clear c0 c1 c2 c3 hb
        go_wp2
        go_roundw
        case rel => exact ⟨k + 1, by omega, by go_num, HS2.out, by rw [hs'.out]; exact HB2.out⟩
        case measure => simp [intOf]; omega
      · rw [hf] at hh hs
        have hs' := Lib.hid hs
        clear hs hf
        go_wp2_with fail
        refine (hh.out _).mono ?_
        rintro _ w2 ⟨rfl, hb⟩
        have HS2 := Lib.hid (HS.out.up hb)
        have HB2 := Lib.hid (HB.out.up hb)
        clear c0 c1 c2 c3 hb
        go_wp2_with fail
        refine (HB2.out.byte k hlt hl (by have := HB2.out.lt; omega)).mono ?_
        rintro _ w3 ⟨rfl, hB3, hb3, ho3⟩
        have HS3 := Lib.hid (HS2.out.others (hb3.mono (by omega)) ho3 (by simp))
        have HB3 := Lib.hid hB3
        clear hB3 hb3 ho3
        go_wp2
        go_roundw
        case rel => exact ⟨k + 1, by omega, by go_num, HS3.out, by rw [hs'.out]; exact HB3.out⟩
        case measure => simp [intOf]; omega
    · obtain rfl : k = 256 := by omega
      rw [hG'.out] at HB
      go_wp2_with fail
      refine (HB.out.string (by have := HB.out.lt; omega)).mono ?_
      rintro _ w2 ⟨rfl, hb⟩
      have hE := Lib.hid (HS.out.1.trans (hb.mono (by omega)))
      clear hb
      go_wp2
      go_ret
      exact ⟨rfl, hE.out⟩
end Go.Proofs.YthglciccejholaaDoor.R5
end
