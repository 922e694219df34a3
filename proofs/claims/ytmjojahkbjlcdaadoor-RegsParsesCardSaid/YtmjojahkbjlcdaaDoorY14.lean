/- Texts of package regs, one behind the other. -/
import Derived.Test.YtmjojahkbjlcdaaDoorProg
import Derived.Test.YtmjojahkbjlcdaaDoorY13
import Derived.WalkKit
import Derived.WalkLawsBesides
import Derived.WalkSpells
import Derived.Outline
import Derived.Lib.Walk
import Derived.Lib.Hide
import Derived.RegionTactic
import Derived.LoopTactic
import Derived.Below
import Derived.IntWalk
import Derived.Lib.BufferRead
import Derived.Laws.IdiomStrings
import Derived.Laws.AppendOwn
import Derived.Test.YtmjojahkbjlcdaaDoorY3
import Derived.Laws.ResultCell
import Derived.Test.YtmjojahkbjlcdaaDoorY4
import Derived.Deep.QuietTactic
import Derived.BigQuiet
import Derived.Test.YtmjojahkbjlcdaaDoorY10
import Derived.Test.YtmjojahkbjlcdaaDoorY2
section
/- The document's Members. -/
namespace Go.Proofs.YtmjojahkbjlcdaaDoor
set_option linter.unusedSimpArgs false
set_option linter.unusedVariables false
set_option maxRecDepth 100000
open Go.RowKit

theorem info5 : (Tryd.prog.info? 5).map (fun i => (i.zero, i.size, i.bytes)) = some (some (.int .u8 0), 1, 1) := by kernel_rfl
def OwnB (w0 : World) (l : List UInt8) (v : Value) (w : World) : Prop := w.ownsRow (w0.heap.size + 1) 5 1 v l.length (Lib.byteCells l)
theorem OwnB.conv {w0 w : World} {l : List UInt8} {v : Value} (h : OwnB w0 l v w) : (convert 56 9 v).run Tryd.prog w = .ok (.string (bs l)) w := by
  rcases h.2 with ⟨h1, h2⟩ | ⟨g, cap, cur, h1, _, h3, _, _, _, h4⟩
  · have : l = [] := List.eq_nil_of_length_eq_zero h2
    subst this; subst h1
    exact Lib.run_convert_nil_bytes w 56 9 5 0 Tryd.underlying56 Tryd.underlying5 Tryd.underlying9
  · subst h1
    exact run_convert_bytes_back w 56 9 5 ⟨g, 0, none⟩ cap l Tryd.underlying56 Tryd.underlying5 Tryd.underlying9 (Lib.bytes_of_row h3 (by simpa using h4))
set_option maxHeartbeats 4000000 in
theorem rmembers_any (f : Nat → Bool) (w : World) :
    Calls Tryd.prog 79 #[.agg (fl f)] w fun e w' => e = .returned (.string (bs (mem f 256))) ∧ Below w.heap.size w w' := by
  obtain ⟨i0, hi, hz0, hz1, hz2⟩ := info_parts info5
  have S0 := Lib.hid ((Sb.start w).alloc (.cells (fl f) 94))
  obtain ⟨G, hG⟩ : ∃ G, mem f 256 = G := ⟨_, rfl⟩
  rw [hG]
  have hG' := Lib.hid hG
  clear hG
  go_enter Tryd.func79, Tryd.ntmps79
  go_wp2
  go_loopw [3, 4] (fun v i wr => ∃ k : Nat, k ≤ 256 ∧ i = .int .i64 k ∧ Sb w wr [(w.heap.size, .cells (fl f) 94)] ∧ OwnB w (mem f k) v wr) (fun _ i _ => 256 - (intOf i).toNat)
  case atStart => exact ⟨0, by omega, rfl, S0.out, World.ownsRow_nil _ _ _ _⟩
  case round =>
    obtain ⟨k, hk, rfl, hS, hO⟩ := hrel
    have HS := Lib.hid hS
    have HO := Lib.hid hO
    clear hS hO
    by_cases hlt : k < 256
    · have hlt' : (k : Int) < 256 := by omega
      have hm : (k : Int) % 256 = k := by omega
      have c0 := HS.out.flag k hlt
      have hs : mem f (k + 1) = if f k then mem f k ++ [UInt8.ofNat k] else mem f k := rfl
      have hl : (mem f k).length ≤ 256 := by rw [mem_len]; have := cnt_le f k; omega
      generalize mem f k = l at *
      cases hf : f k
      · rw [hf] at c0 hs
        have hs' := Lib.hid hs
        clear hs hf
        go_wp2
        go_roundw
        case rel => exact ⟨k + 1, by omega, by go_num, HS.out, by rw [hs'.out]; exact HO.out⟩
        case measure => simp [intOf]; omega
      · rw [hf] at c0 hs
        have hs' := Lib.hid hs
        clear hs hf
        go_wp2_with (at_builtin; refine wpList_append_own _ rfl (.tmp 12) (.tmp 15) 56 rfl (w.heap.size + 1) 5 i0 (.int .u8 0) 1 1 Tryd.underlying56 hi hz0 hz1 hz2 rfl (by decide) u3 l.length (Lib.byteCells l) rfl ?c0 ⟨wr.heap.size, 0, none⟩ 1 1 [.int .u8 (k : Int)] rfl rfl ?c1 ?c2 ?c3 ?c4 ?c5 ?_)
        case c0 => exact World.ownsRow.alloc HO.out _
        case c2 => first | rfl | (intro u hu; simp at hu; subst hu; rfl)
        case c3 => unfold maxLen; omega
        case c4 => omega
        case c5 => have := HS.out.lt; simp; omega
        intro v' w7 hown7 hgrow7 _
        have HS7 := Lib.hid ((HS.out.up ((Below.refl _ _).alloc (Nat.le_refl _) _)).grown hgrow7 (fun g hg => by have := (World.ownsRow.lt HO.out g hg).1; exact ⟨by omega, by simp; omega⟩))
        rw [← byteCells_snoc l k hlt] at hown7
        have HO7 := Lib.hid hown7
        clear hown7 hgrow7
        go_wp2
        go_roundw
        case rel => exact ⟨k + 1, by omega, by go_num, HS7.out, by unfold OwnB; rw [hs'.out]; simpa using HO7.out⟩
        case measure => simp [intOf]; omega
    · obtain rfl : k = 256 := by omega
      rw [hG'.out] at HO
      have hcv := HO.out.conv
      go_wp2
      go_ret
      exact ⟨rfl, HS.out.1⟩
end Go.Proofs.YtmjojahkbjlcdaaDoor
end
section
/- The document's Flags: a set's bits, one by one. -/
namespace Go.Proofs.YtmjojahkbjlcdaaDoor
set_option linter.unusedSimpArgs false
set_option linter.unusedVariables false
set_option maxRecDepth 100000
open Go.RowKit

theorem W_bit (f : Nat → Bool) (k : Nat) : (((W f (k / 64) / 2 ^ (k % 64) : Nat) : Int) % 2 == 1) = f k := by
  have h := W_test f (k / 64) (k % 64) (Nat.mod_lt _ (by omega))
  rw [Nat.div_add_mod] at h
  rw [← h, Nat.testBit_eq_decide_div_mod_eq, Bool.eq_iff_iff]
  clear h
  generalize W f (k / 64) / 2 ^ (k % 64) = y
  simp; omega
def lowF (f : Nat → Bool) (k j : Nat) : Bool := decide (j < k) && f j
theorem lowF_zero (f : Nat → Bool) : lowF f 0 = fun _ => false := by funext j; simp [lowF]
theorem lowF_set (f : Nat → Bool) (k : Nat) : (fl (lowF f k)).setIfInBounds k (.bool (f k)) = fl (lowF f (k + 1)) := by
  refine fl_set _ _ k (f k) fun j _ => ?_
  unfold lowF
  by_cases h : j = k
  · subst h; simp
  · by_cases h1 : j < k
    · simp [h, h1, show j < k + 1 by omega]
    · simp [h, h1, show ¬ j < k + 1 by omega]
theorem lowF_all (f : Nat → Bool) : fl (lowF f 256) = fl f := fl_congr fun j hj => by simp [lowF, hj]

set_option maxHeartbeats 4000000 in
set_option maxRecDepth 100000 in
theorem flags_any (f : Nat → Bool) (w : World) :
    Calls Tryd.prog 62 #[setV f] w fun e w' => e = .returned (.agg (fl f)) ∧ Below w.heap.size w w' := by
  have S0 := Lib.hid ((((Sb.start w).alloc (.cells (wc f) 24)).alloc (.cells (fl fun _ => false) 94)).alloc (.cells (fl fun _ => false) 94))
  have hz := zero27
  go_enter Tryd.func62, Tryd.ntmps62
  go_wp2
  go_loopw [4] (fun i wr => ∃ k : Nat, k ≤ 256 ∧ i = .int .i64 k ∧ Sb w wr [(w.heap.size + 1 + 1, .cells (fl (lowF f k)) 94), (w.heap.size + 1, .cells (fl fun _ => false) 94), (w.heap.size, .cells (wc f) 24)]) (fun i _ => 256 - (intOf i).toNat)
  case atStart => exact ⟨0, by omega, rfl, by simpa [wc, lowF_zero] using S0.out⟩
  case round =>
    obtain ⟨k, hk, rfl, hS⟩ := hrel
    have HS := Lib.hid hS
    clear hS
    by_cases hlt : k < 256
    · have hlt' : (k : Int) < 256 := by omega
      have c0 := HS.out.tl.tl.word (k / 64) (by omega)
      have hx := W_lt f (k / 64)
      have hW := W_bit f k
      have hset := Lib.hid (lowF_set f k)
      generalize hq : W f (k / 64) = x at c0 hx hW
      clear hq
      generalize f k = v at hW hset
      have c1 := HS.out.flag k hlt
      have f1 := HS.out.free k
      have z1 := HS.out.lt
      obtain ⟨wo, rfl⟩ : ∃ wo : World, wo = wr := ⟨_, rfl⟩
      have hm : k % 64 < 64 := Nat.mod_lt _ (by omega)
      go_wp2
      go_loop [5, 6, 21, 22] (fun t i _ _ => ∃ j : Nat, j ≤ k % 64 ∧ i = .int .i64 j ∧ t = .int .u64 (x / 2 ^ j : Nat)) (fun _ i _ _ => k % 64 - (intOf i).toNat)
      case atStart => exact ⟨0, by omega, rfl, by simp⟩
      case round =>
        obtain ⟨j, hj, rfl, rfl⟩ := hrel
        by_cases hlj : j < k % 64
        · have hl : (j : Int) < (k : Int) % 64 := by omega
          have hd : IntKind.u64.wrap (((x / 2 ^ j : Nat) : Int) / 2) = ((x / 2 ^ (j + 1) : Nat) : Int) := by
            rw [Nat.pow_succ, ← Nat.div_div_eq_div_mul, IntKind.wrap_u64]
            have : x / 2 ^ j ≤ x := Nat.div_le_self ..
            generalize x / 2 ^ j = y at this ⊢
            omega
          generalize x / 2 ^ j = y at hd
          generalize hy : x / 2 ^ (j + 1) = y' at hd
          have hy' := Lib.hid hy
          clear hy
          go_wp2
          exact ⟨⟨j + 1, by omega, by go_num, by rw [hy'.out]⟩, by simp [intOf]; omega⟩
        · obtain rfl : j = k % 64 := by omega
          generalize x / 2 ^ (k % 64) = y at hW
          go_wp2
          go_roundw
          case rel => exact ⟨k + 1, by omega, by go_num, by rw [← hset.out]; exact HS.out.set _ (by simp <;> omega)⟩
          case measure => simp [intOf]; omega
    · obtain rfl : k = 256 := by omega
      clear hlt hk
      rw [lowF_all] at HS
      have h2 := Lib.hid HS.out.heap
      have h1 := Lib.hid HS.out.tl.heap
      go_wp2_with (first | (refine wpList_load_row rfl 94 (.tmp 3) rfl (w.heap.size + 1 + 1) rfl 94 (fl f) (0, 0) _ h2.out Tryd.underlying94 rfl (fsize27 f) ?_) | (refine wpList_store_row rfl 94 (.tmp 2) (.tmp 28) rfl (w.heap.size + 1) (fl f) rfl rfl 94 _ h1.out (fsize27 f) (by rw [fl_size, fl_size]) (fl_one f) ?_))
      have hE := (HS.out.sub (M := [(w.heap.size + 1, .cells (fl fun _ => false) 94), (w.heap.size, .cells (wc f) 24)]) (by simp)).setRow (cs' := fl f) (by simp)
      refine bodyPost_ret (v := .agg (fl f)) (results_cell_row rfl _ _ (w.heap.size + 1) 94 (fl f) (0, 0) _ rfl hE.heap Tryd.underlying94 rfl (fsize27 f)) rfl ⟨rfl, hE.1⟩
end Go.Proofs.YtmjojahkbjlcdaaDoor
end
section
/- A set's value over four letters. -/
namespace Go.Proofs.YtmjojahkbjlcdaaDoor
set_option linter.unusedSimpArgs false
set_option linter.unusedVariables false
set_option maxRecDepth 100000
open Go.RowKit

/-- A set's value of four numbers, whatever they are. -/
abbrev vv (u : Nat → Int) : Value := .agg #[.int .u64 (u 0), .int .u64 (u 1), .int .u64 (u 2), .int .u64 (u 3)]
def vc (u : Nat → Int) : Array Value := #[.int .u64 (u 0), .int .u64 (u 1), .int .u64 (u 2), .int .u64 (u 3)]
/-- The numbers of a set. -/
def wf (f : Nat → Bool) (i : Nat) : Int := (W f i : Nat)
theorem Sb.vw {w0 w : World} {b : Nat} {u : Nat → Int} {t : TypeId} {fr : Nat × Nat} {L : List (Nat × Obj)} (h : Sb w0 w ((b, .cells (vc u) t fr) :: L)) (j : Nat) (hj : j < 4) : w.cell? ⟨b, j, none⟩ = some (.int .u64 (u j)) := by
  rw [h.cell j]; rcases (by omega : j = 0 ∨ j = 1 ∨ j = 2 ∨ j = 3) with rfl | rfl | rfl | rfl <;> rfl
theorem i24v (u : Nat → Int) : (Tryd.prog.info? 24).map (·.size) = some (vc u).size := by
  rw [show (vc u).size = 4 from rfl]; kernel_rfl
theorem vc_one (u : Nat → Int) : (vc u).all (·.oneCell') = true := by
  unfold vc
  simp only [Array.all_eq_true]
  intro i hi
  have : i < 4 := hi
  rcases (by omega : i = 0 ∨ i = 1 ∨ i = 2 ∨ i = 3) with rfl | rfl | rfl | rfl <;> rfl
end Go.Proofs.YtmjojahkbjlcdaaDoor
end
section
/- Package regs: the reader's small steps: what comes next. -/
namespace Go.Proofs.YtmjojahkbjlcdaaDoor
set_option linter.unusedSimpArgs false
set_option linter.unusedVariables false
set_option maxRecDepth 100000
open Go.RowKit

def inlF (b : Nat) : Bool := !(ofL [10] b)
abbrev z4 : Array Value := #[.int .u64 0, .int .u64 0, .int .u64 0, .int .u64 0]
set_option maxHeartbeats 1000000 in
theorem inLine_abs (u o : Nat → Int) (h1 : Hid (∀ w, Calls Tryd.prog 90 #[.string ⟨#[10]⟩] w fun e w' => e = .returned (vv u) ∧ Below w.heap.size w w')) (h2 : Hid (∀ w, Calls Tryd.prog 89 #[vv u] w fun e w' => e = .returned (vv o) ∧ Below w.heap.size w w')) (w : World) :
    Calls Tryd.prog 70 #[] w fun e w' => e = .returned (vv o) ∧ Below w.heap.size w w' := by
  have S0 := Lib.hid ((Sb.start w).alloc (.cells z4 24))
  go_enter Tryd.func70, Tryd.ntmps70
  go_wp2_with fail
  refine (h1.out _).mono ?_
  rintro _ w1 ⟨rfl, hb⟩
  have S1 := Lib.hid (S0.out.up hb)
  clear hb
  go_wp2_with fail
  refine (h2.out _).mono ?_
  rintro _ w2 ⟨rfl, hb⟩
  have S2 := Lib.hid (S1.out.up hb)
  clear hb S0 S1
  go_wp2_with (refine wpList_store_row rfl 24 (.tmp 0) (.tmp 2) rfl w.heap.size (vc o) rfl rfl 24 _ S2.out.heap (i24v o) rfl (vc_one o) ?_)
  have hE := S2.out.setRow (cs' := vc o) (by simp)
  exact bodyPost_ret (v := vv o) (results_cell_row rfl _ _ w.heap.size 24 (vc o) (0, 0) _ rfl hE.heap Tryd.underlying24 rfl (i24v o)) rfl ⟨rfl, hE.1⟩
theorem inLine_any (w : World) : Calls Tryd.prog 70 #[] w fun e w' => e = .returned (vv (wf inlF)) ∧ Below w.heap.size w w' :=
  inLine_abs (wf (ofL [10])) (wf inlF) (Lib.hid fun w => of_any (bs [10]) (by decide) w) (Lib.hid fun w => not_any (ofL [10]) w) w
theorem range1_any (c : UInt8) (w : World) : Calls Tryd.prog 108 #[.int .u8 c.toNat, .int .u8 c.toNat] w fun e w' => e = .returned (vv (wf (rangeF c.toNat 1))) ∧ Below w.heap.size w w' := by
  have h := range_any c.toNat c.toNat c.toNat_lt c.toNat_lt w
  rw [show c.toNat + 1 - c.toNat = 1 by omega] at h
  exact h

def uO : Option (Nat → Bool) → (Nat → Int)
  | some f => wf f
  | none => u0
theorem setO_uO (o : Option (Nat → Bool)) : setO o = vv (uO o) := by cases o <;> rfl
def setT (u : Nat → Int) : RT := .mk 2 u []
/-- The class ahead: what it says. -/
def csu (l : List UInt8) (t : List UInt8) : Nat → Int := uO (ps (l.take (l.length - t.length)))
/-- An atom; ch: what stands in brackets. -/
def atomF (ch : List UInt8 → Except (List UInt8) (RT × List UInt8)) (l : List UInt8) : Except (List UInt8) (RT × List UInt8) :=
  if l.head? = some 40 then match ch l.tail with
    | .error q => .error q
    | .ok (t, q) => match q with
      | [] => .error []
      | _ :: q' => .ok (t, q')
  else if l.head? = some 91 then match csl l with
    | .error q => .error q
    | .ok (_, t) => .ok (setT (csu l t), t)
  else if l.head? = some 46 then .ok (setT (wf inlF), l.tail)
  else match sgl l with
    | .error q => .error q
    | .ok (c, q) => .ok (setT (wf (rangeF c.toNat 1)), q)
def AH (rb : Nat) (B : ByteArray) (s : ByteArray) (n : Nat) (v : Bool) : Prop := Hid (∀ w, Gat rb s n w → Calls Tryd.prog 83 #[.pointer (some ⟨rb, 0, none⟩), .string B] w fun e w' => e = .returned (.bool v) ∧ Gk rb s n w w')
theorem infoR : (Tryd.prog.info? 27).map (fun i => (i.zero, i.size)) = some (some (.agg (nodeC 0 u0 (.slice none 0 0))), 6) := by kernel_rfl
theorem zero27r (w : World) : (zeroValue 27).run Tryd.prog w = .ok (.agg (nodeC 0 u0 (.slice none 0 0))) w := (zero_of_info infoR).1 w
theorem size27r : (Tryd.prog.info? 27).map (·.size) = some 6 := (zero_of_info infoR).2
theorem nodeC_one (k : Int) (u : Nat → Int) (p : Option Addr) (n c : Nat) : (nodeC k u (.slice p n c)).all (·.oneCell') = true := by
  simp only [Array.all_eq_true]
  intro i hi
  have : i < 6 := hi
  rcases (by omega : i = 0 ∨ i = 1 ∨ i = 2 ∨ i = 3 ∨ i = 4 ∨ i = 5) with rfl | rfl | rfl | rfl | rfl | rfl <;> rfl
set_option maxHeartbeats 4000000 in
theorem atom_D {rb n0 n1 n2 n3 n4 : Nat} {s : ByteArray} {w : World} (b : UInt8) (u : Nat → Int) (h0 : Gat rb s n0 w) (hP1 : PS rb ⟨#[40]⟩ s n0 false n1) (hA : AH rb ⟨#[91]⟩ s n1 false) (hP2 : PS rb ⟨#[46]⟩ s n1 false n2)
    (hS : Hid (∀ w, Gat rb s n2 w → Calls Tryd.prog 107 #[.pointer (some ⟨rb, 0, none⟩)] w fun e w' => e = .returned (.int .u8 b.toNat) ∧ Gk rb s n3 w w'))
    (hR : Hid (∀ w, Calls Tryd.prog 108 #[.int .u8 b.toNat, .int .u8 b.toNat] w fun e w' => e = .returned (vv u) ∧ Below w.heap.size w w')) :
    Calls Tryd.prog 98 #[.pointer (some ⟨rb, 0, none⟩)] w fun e w' => e = .returned (.agg (nodeC 2 u (.slice none 0 0))) ∧ Gk rb s n3 w w' := by
  have HU := Lib.hid (Gk.up h0 ((Below.refl _ _).alloc (Nat.le_refl _) (.cells (nodeC 0 u0 (.slice none 0 0)) 27)))
  have HB2 := Lib.hid (heap_alloc_last w (.cells (nodeC 0 u0 (.slice none 0 0)) 27))
  have hne : w.heap.size ≠ rb := by have := h0.lt; omega
  have hz := zero27r
  clear h0
  go_enter Tryd.func98, Tryd.ntmps98
  go_wp2_with fail
  generalize hwA : w.alloc (.cells (nodeC 0 u0 (.slice none 0 0)) 27) = wA at *
  clear hwA
  generalize hb2 : w.heap.size = b2 at *
  refine (hP1.out _ HU.out.2).mono ?_
  rintro _ w1 ⟨rfl, hk⟩
  have H1 := Lib.hid ((Gk.refl HU.out.2).trans hk)
  clear hk
  go_wp2_with fail
  refine (hA.out _ H1.out.2).mono ?_
  rintro _ w2 ⟨rfl, hk⟩
  have H2 := Lib.hid (H1.out.trans hk)
  clear hk H1
  go_wp2_with fail
  refine (hP2.out _ H2.out.2).mono ?_
  rintro _ w3 ⟨rfl, hk⟩
  have H3 := Lib.hid (H2.out.trans hk)
  clear hk H2
  go_wp2_with fail
  refine (hS.out _ H3.out.2).mono ?_
  rintro _ w4 ⟨rfl, hk⟩
  have H4 := Lib.hid (H3.out.trans hk)
  clear hk H3
  go_wp2_with fail
  refine (hR.out _).mono ?_
  rintro _ w5 ⟨rfl, hb⟩
  have H5 := Lib.hid (H4.out.trans (Gk.up H4.out.2 hb))
  clear hb H4
  have HY : Hid (w5.heap[b2]? = some (.cells (nodeC 0 u0 (.slice none 0 0)) 27)) := Lib.hid (by
    rw [H5.out.1.block b2 (Array.getElem?_eq_some_iff.1 HB2.out).1 (fun e => hne (Option.some.inj e)), HB2.out])
  go_wp2_with (refine wpList_store_row rfl 27 (.tmp 2) (.tmp 29) rfl b2 (nodeC 2 u (.slice none 0 0)) rfl rfl 27 _ HY.out size27r rfl (nodeC_one _ _ _ _ _) ?_)
  exact bodyPost_ret (v := .agg (nodeC 2 u (.slice none 0 0))) (results_cell_row rfl _ _ b2 27 _ (0, 0) _ rfl (setRow_heap w5 b2 _ _ 27 (0, 0) HY.out) Tryd.underlying27 rfl size27r) rfl ⟨rfl, Gk.row (HU.out.trans H5.out) (by omega) hne⟩
end Go.Proofs.YtmjojahkbjlcdaaDoor
end
section
/- Package regs: the reader's small steps: what comes next. -/
namespace Go.Proofs.YtmjojahkbjlcdaaDoor
set_option linter.unusedSimpArgs false
set_option linter.unusedVariables false
set_option maxRecDepth 100000
open Go.RowKit

theorem RV.form {D : Nat → Prop} {w : World} {t : RT} {v : Value} (h : RV D w t v) : ∃ k u p n c, v = .agg (nodeC k u (.slice p n c)) := by
  cases h with
  | leaf k u p c => exact ⟨_, _, _, _, _, rfl⟩
  | node k u ps b o c xs hD hn hx hc => exact ⟨_, _, _, _, _, rfl⟩
theorem Gk.old {rb n b : Nat} {s : ByteArray} {w w' : World} (h : Gk rb s n w w') (hb : b < w.heap.size) (hne : b ≠ rb) : w'.heap[b]? = w.heap[b]? := h.1.block b hb (fun e => hne (Option.some.inj e))
set_option maxHeartbeats 4000000 in
theorem atom_C {rb n0 n1 n2 : Nat} {s : ByteArray} {w : World} (u : Nat → Int) (h0 : Gat rb s n0 w) (hP1 : PS rb ⟨#[40]⟩ s n0 false n1) (hA : AH rb ⟨#[91]⟩ s n1 false) (hP2 : PS rb ⟨#[46]⟩ s n1 true n2)
    (hR : Hid (∀ w, Calls Tryd.prog 70 #[] w fun e w' => e = .returned (vv u) ∧ Below w.heap.size w w')) :
    Calls Tryd.prog 98 #[.pointer (some ⟨rb, 0, none⟩)] w fun e w' => e = .returned (.agg (nodeC 2 u (.slice none 0 0))) ∧ Gk rb s n2 w w' := by
  have HU := Lib.hid (Gk.up h0 ((Below.refl _ _).alloc (Nat.le_refl _) (.cells (nodeC 0 u0 (.slice none 0 0)) 27)))
  have HB2 := Lib.hid (heap_alloc_last w (.cells (nodeC 0 u0 (.slice none 0 0)) 27))
  have hne : w.heap.size ≠ rb := by have := h0.lt; omega
  have hz := zero27r
  clear h0
  go_enter Tryd.func98, Tryd.ntmps98
  go_wp2_with fail
  generalize hwA : w.alloc (.cells (nodeC 0 u0 (.slice none 0 0)) 27) = wA at *
  clear hwA
  generalize hb2 : w.heap.size = b2 at *
  refine (hP1.out _ HU.out.2).mono ?_
  rintro _ w1 ⟨rfl, hk⟩
  have H1 := Lib.hid ((Gk.refl HU.out.2).trans hk)
  clear hk
  go_wp2_with fail
  refine (hA.out _ H1.out.2).mono ?_
  rintro _ w2 ⟨rfl, hk⟩
  have H2 := Lib.hid (H1.out.trans hk)
  clear hk H1
  go_wp2_with fail
  refine (hP2.out _ H2.out.2).mono ?_
  rintro _ w3 ⟨rfl, hk⟩
  have H3 := Lib.hid (H2.out.trans hk)
  clear hk H2
  go_wp2_with fail
  refine (hR.out _).mono ?_
  rintro _ w5 ⟨rfl, hb⟩
  have H5 := Lib.hid (H3.out.trans (Gk.up H3.out.2 hb))
  clear hb H3
  have HY : Hid (w5.heap[b2]? = some (.cells (nodeC 0 u0 (.slice none 0 0)) 27)) := Lib.hid (by
    rw [H5.out.old (Array.getElem?_eq_some_iff.1 HB2.out).1 hne, HB2.out])
  go_wp2_with (refine wpList_store_row rfl 27 (.tmp 2) (.tmp 23) rfl b2 (nodeC 2 u (.slice none 0 0)) rfl rfl 27 _ HY.out size27r rfl (nodeC_one _ _ _ _ _) ?_)
  exact bodyPost_ret (v := .agg (nodeC 2 u (.slice none 0 0))) (results_cell_row rfl _ _ b2 27 _ (0, 0) _ rfl (setRow_heap w5 b2 _ _ 27 (0, 0) HY.out) Tryd.underlying27 rfl size27r) rfl ⟨rfl, Gk.row (HU.out.trans H5.out) (by omega) hne⟩
set_option maxHeartbeats 4000000 in
theorem atom_B {rb n0 n1 n2 : Nat} {s : ByteArray} {w : World} (u : Nat → Int) (h0 : Gat rb s n0 w) (hP1 : PS rb ⟨#[40]⟩ s n0 false n1) (hA : AH rb ⟨#[91]⟩ s n1 true)
    (hR : Hid (∀ w, Gat rb s n1 w → Calls Tryd.prog 106 #[.pointer (some ⟨rb, 0, none⟩)] w fun e w' => e = .returned (vv u) ∧ Gk rb s n2 w w')) :
    Calls Tryd.prog 98 #[.pointer (some ⟨rb, 0, none⟩)] w fun e w' => e = .returned (.agg (nodeC 2 u (.slice none 0 0))) ∧ Gk rb s n2 w w' := by
  have HU := Lib.hid (Gk.up h0 ((Below.refl _ _).alloc (Nat.le_refl _) (.cells (nodeC 0 u0 (.slice none 0 0)) 27)))
  have HB2 := Lib.hid (heap_alloc_last w (.cells (nodeC 0 u0 (.slice none 0 0)) 27))
  have hne : w.heap.size ≠ rb := by have := h0.lt; omega
  have hz := zero27r
  clear h0
  go_enter Tryd.func98, Tryd.ntmps98
  go_wp2_with fail
  generalize hwA : w.alloc (.cells (nodeC 0 u0 (.slice none 0 0)) 27) = wA at *
  clear hwA
  generalize hb2 : w.heap.size = b2 at *
  refine (hP1.out _ HU.out.2).mono ?_
  rintro _ w1 ⟨rfl, hk⟩
  have H1 := Lib.hid ((Gk.refl HU.out.2).trans hk)
  clear hk
  go_wp2_with fail
  refine (hA.out _ H1.out.2).mono ?_
  rintro _ w2 ⟨rfl, hk⟩
  have H2 := Lib.hid (H1.out.trans hk)
  clear hk H1
  go_wp2_with fail
  refine (hR.out _ H2.out.2).mono ?_
  rintro _ w5 ⟨rfl, hk⟩
  have H5 := Lib.hid (H2.out.trans hk)
  clear hk H2
  have HY : Hid (w5.heap[b2]? = some (.cells (nodeC 0 u0 (.slice none 0 0)) 27)) := Lib.hid (by
    rw [H5.out.old (Array.getElem?_eq_some_iff.1 HB2.out).1 hne, HB2.out])
  go_wp2_with (refine wpList_store_row rfl 27 (.tmp 2) (.tmp 18) rfl b2 (nodeC 2 u (.slice none 0 0)) rfl rfl 27 _ HY.out size27r rfl (nodeC_one _ _ _ _ _) ?_)
  exact bodyPost_ret (v := .agg (nodeC 2 u (.slice none 0 0))) (results_cell_row rfl _ _ b2 27 _ (0, 0) _ rfl (setRow_heap w5 b2 _ _ 27 (0, 0) HY.out) Tryd.underlying27 rfl size27r) rfl ⟨rfl, Gk.row (HU.out.trans H5.out) (by omega) hne⟩
set_option maxHeartbeats 4000000 in
theorem atom_Be {rb n0 n1 n2 : Nat} {s : ByteArray} {w : World} (h0 : Gat rb s n0 w) (hP1 : PS rb ⟨#[40]⟩ s n0 false n1) (hA : AH rb ⟨#[91]⟩ s n1 true)
    (hR : Hid (∀ w, Gat rb s n1 w → Calls Tryd.prog 106 #[.pointer (some ⟨rb, 0, none⟩)] w fun e w' => e = boom ∧ Gk rb s n2 w w')) :
    Calls Tryd.prog 98 #[.pointer (some ⟨rb, 0, none⟩)] w fun e w' => e = boom ∧ Gk rb s n2 w w' := by
  have HU := Lib.hid (Gk.up h0 ((Below.refl _ _).alloc (Nat.le_refl _) (.cells (nodeC 0 u0 (.slice none 0 0)) 27)))
  have hz := zero27r
  clear h0
  go_enter Tryd.func98, Tryd.ntmps98
  go_wp2_with fail
  refine (hP1.out _ HU.out.2).mono ?_
  rintro _ w1 ⟨rfl, hk⟩
  have H1 := Lib.hid (HU.out.trans hk)
  clear hk
  go_wp2_with fail
  refine (hA.out _ H1.out.2).mono ?_
  rintro _ w2 ⟨rfl, hk⟩
  have H2 := Lib.hid (H1.out.trans hk)
  clear hk H1
  go_wp2_with fail
  refine (hR.out _ H2.out.2).mono ?_
  rintro _ w5 ⟨rfl, hk⟩
  have H5 := Lib.hid (H2.out.trans hk)
  clear hk H2
  unfold boom
  go_wp2
  exact ⟨rfl, rfl, H5.out⟩
set_option maxHeartbeats 4000000 in
theorem atom_De {rb n0 n1 n2 n3 : Nat} {s : ByteArray} {w : World} (h0 : Gat rb s n0 w) (hP1 : PS rb ⟨#[40]⟩ s n0 false n1) (hA : AH rb ⟨#[91]⟩ s n1 false) (hP2 : PS rb ⟨#[46]⟩ s n1 false n2)
    (hS : Hid (∀ w, Gat rb s n2 w → Calls Tryd.prog 107 #[.pointer (some ⟨rb, 0, none⟩)] w fun e w' => e = boom ∧ Gk rb s n3 w w')) :
    Calls Tryd.prog 98 #[.pointer (some ⟨rb, 0, none⟩)] w fun e w' => e = boom ∧ Gk rb s n3 w w' := by
  have HU := Lib.hid (Gk.up h0 ((Below.refl _ _).alloc (Nat.le_refl _) (.cells (nodeC 0 u0 (.slice none 0 0)) 27)))
  have hz := zero27r
  clear h0
  go_enter Tryd.func98, Tryd.ntmps98
  go_wp2_with fail
  refine (hP1.out _ HU.out.2).mono ?_
  rintro _ w1 ⟨rfl, hk⟩
  have H1 := Lib.hid (HU.out.trans hk)
  clear hk
  go_wp2_with fail
  refine (hA.out _ H1.out.2).mono ?_
  rintro _ w2 ⟨rfl, hk⟩
  have H2 := Lib.hid (H1.out.trans hk)
  clear hk H1
  go_wp2_with fail
  refine (hP2.out _ H2.out.2).mono ?_
  rintro _ w3 ⟨rfl, hk⟩
  have H3 := Lib.hid (H2.out.trans hk)
  clear hk H2
  go_wp2_with fail
  refine (hS.out _ H3.out.2).mono ?_
  rintro _ w5 ⟨rfl, hk⟩
  have H5 := Lib.hid (H3.out.trans hk)
  clear hk H3
  unfold boom
  go_wp2
  exact ⟨rfl, rfl, H5.out⟩
/-- What stands in brackets, by its contract. -/
def CHO (rb : Nat) (s : ByteArray) (q : List UInt8) (r : Except (List UInt8) (RT × List UInt8)) : Prop := Hid (∀ w, GA rb s q w → Calls Tryd.prog 47 #[.pointer (some ⟨rb, 0, none⟩)] w (TreeP rb s w r))
set_option maxHeartbeats 4000000 in
theorem atom_Ae {rb n0 : Nat} {s : ByteArray} {w : World} (q t : List UInt8) (hq : Suf s q) (h0 : Gat rb s n0 w) (hP1 : PS rb ⟨#[40]⟩ s n0 true (s.size - q.length)) (hC : CHO rb s q (.error t)) :
    Calls Tryd.prog 98 #[.pointer (some ⟨rb, 0, none⟩)] w fun e w' => e = boom ∧ GK rb s t w w' := by
  have HU := Lib.hid (Gk.up h0 ((Below.refl _ _).alloc (Nat.le_refl _) (.cells (nodeC 0 u0 (.slice none 0 0)) 27)))
  have hz := zero27r
  clear h0
  go_enter Tryd.func98, Tryd.ntmps98
  go_wp2_with fail
  refine (hP1.out _ HU.out.2).mono ?_
  rintro _ w1 ⟨rfl, hk⟩
  have H1 := Lib.hid (HU.out.trans hk)
  clear hk
  go_wp2_with fail
  refine (hC.out _ ⟨hq, H1.out.2⟩).mono ?_
  rintro _ w5 ⟨rfl, hk⟩
  have H5 : Hid (GK rb s t w w5) := Lib.hid (.of hk.2.1 (H1.out.trans hk.gk))
  clear hk H1
  unfold boom
  go_wp2
  exact ⟨rfl, rfl, H5.out⟩
set_option maxHeartbeats 4000000 in
theorem atom_An {rb n0 n3 : Nat} {s : ByteArray} {w : World} (q r : List UInt8) (t : RT) (hq : Suf s q) (h0 : Gat rb s n0 w) (hP1 : PS rb ⟨#[40]⟩ s n0 true (s.size - q.length)) (hC : CHO rb s q (.ok (t, r))) (hN : NEXT rb s (s.size - r.length) boom n3) :
    Calls Tryd.prog 98 #[.pointer (some ⟨rb, 0, none⟩)] w fun e w' => e = boom ∧ Gk rb s n3 w w' := by
  have HU := Lib.hid (Gk.up h0 ((Below.refl _ _).alloc (Nat.le_refl _) (.cells (nodeC 0 u0 (.slice none 0 0)) 27)))
  have hz := zero27r
  clear h0
  go_enter Tryd.func98, Tryd.ntmps98
  go_wp2_with fail
  refine (hP1.out _ HU.out.2).mono ?_
  rintro _ w1 ⟨rfl, hk⟩
  have H1 := Lib.hid (HU.out.trans hk)
  clear hk
  go_wp2_with fail
  refine (hC.out _ ⟨hq, H1.out.2⟩).mono ?_
  rintro _ w2 ⟨⟨v, rfl, hRV⟩, hk⟩
  obtain ⟨k, u, p, n, c, rfl⟩ := hRV.form
  have H2 := Lib.hid (H1.out.trans hk.gk)
  clear hk hRV H1
  go_wp2_with (refine wpList_store_row rfl 27 (.tmp 3) (.tmp 9) rfl w2.heap.size (nodeC k u (.slice p n c)) rfl rfl 27 _ (heap_alloc_last w2 _) size27r rfl (nodeC_one _ _ _ _ _) ?_)
  rw [World.setRow_alloc_new]
  have H3 := Lib.hid (H2.out.trans (Gk.up H2.out.2 ((Below.refl _ _).alloc (Nat.le_refl _) (.cells (nodeC k u (.slice p n c)) 27))))
  clear H2
  go_wp2_with fail
  refine (hN.out _ H3.out.2).mono ?_
  rintro _ w5 ⟨rfl, hk⟩
  have H5 := Lib.hid (H3.out.trans hk)
  clear hk H3
  unfold boom
  go_wp2
  exact ⟨rfl, rfl, H5.out⟩
set_option maxHeartbeats 4000000 in
theorem atom_A {rb n0 n3 : Nat} {s : ByteArray} {w : World} (b : UInt8) (q r : List UInt8) (t : RT) (hq : Suf s q) (h0 : Gat rb s n0 w) (hP1 : PS rb ⟨#[40]⟩ s n0 true (s.size - q.length)) (hC : CHO rb s q (.ok (t, r))) (hN : NEXT rb s (s.size - r.length) (.returned (.int .u8 b.toNat)) n3) :
    Calls Tryd.prog 98 #[.pointer (some ⟨rb, 0, none⟩)] w fun e w' => (∃ v, e = .returned v ∧ RV (fun b => w.heap.size ≤ b ∧ b < w'.heap.size) w' t v) ∧ Gk rb s n3 w w' := by
  have HU := Lib.hid (Gk.up h0 ((Below.refl _ _).alloc (Nat.le_refl _) (.cells (nodeC 0 u0 (.slice none 0 0)) 27)))
  have HB2 := Lib.hid (heap_alloc_last w (.cells (nodeC 0 u0 (.slice none 0 0)) 27))
  have hsz : (w.alloc (.cells (nodeC 0 u0 (.slice none 0 0)) 27)).heap.size = w.heap.size + 1 := by simp
  have hrb := h0.lt
  have hne : w.heap.size ≠ rb := by omega
  have hz := zero27r
  clear h0
  go_enter Tryd.func98, Tryd.ntmps98
  go_wp2_with fail
  generalize hwA : w.alloc (.cells (nodeC 0 u0 (.slice none 0 0)) 27) = wA at *
  clear hwA
  generalize hb2 : w.heap.size = b2 at *
  refine (hP1.out _ HU.out.2).mono ?_
  rintro _ w1 ⟨rfl, hk⟩
  have H1 := Lib.hid ((Gk.refl HU.out.2).trans hk)
  clear hk
  go_wp2_with fail
  refine (hC.out _ ⟨hq, H1.out.2⟩).mono ?_
  rintro _ w2 ⟨⟨v, rfl, hRV⟩, hk⟩
  obtain ⟨k, u, p, n, c, rfl⟩ := hRV.form
  have HK12 := Lib.hid hk.gk
  have HRV := Lib.hid hRV
  clear hk hRV
  go_wp2_with (refine wpList_store_row rfl 27 (.tmp 3) (.tmp 9) rfl w2.heap.size (nodeC k u (.slice p n c)) rfl rfl 27 _ (heap_alloc_last w2 _) size27r rfl (nodeC_one _ _ _ _ _) ?_)
  rw [World.setRow_alloc_new]
  have H3 := Lib.hid (Gk.up HK12.out.2 ((Below.refl _ _).alloc (Nat.le_refl _) (.cells (nodeC k u (.slice p n c)) 27)))
  have HB3 := Lib.hid (heap_alloc_last w2 (.cells (nodeC k u (.slice p n c)) 27))
  have hsz3 : (w2.alloc (.cells (nodeC k u (.slice p n c)) 27)).heap.size = w2.heap.size + 1 := by simp
  generalize hw3 : w2.alloc (.cells (nodeC k u (.slice p n c)) 27) = w3 at *
  clear hw3
  generalize hb3 : w2.heap.size = b3 at *
  go_wp2_with fail
  refine (hN.out _ H3.out.2).mono ?_
  rintro _ w5 ⟨rfl, hk⟩
  have H5 := Lib.hid hk
  clear hk
  have s1 := H1.out.1.size
  have s2 := HK12.out.1.size
  have s5 := H5.out.1.size
  have HX : Hid (w5.heap[b3]? = some (.cells (nodeC k u (.slice p n c)) 27)) := Lib.hid (by
    rw [H5.out.old (by omega) (by omega), HB3.out])
  have HY : Hid (w5.heap[b2]? = some (.cells (nodeC 0 u0 (.slice none 0 0)) 27)) := Lib.hid (by
    rw [H5.out.old (by omega) hne, H3.out.old (by omega) hne, HK12.out.old (by omega) hne, H1.out.old (by omega) hne, HB2.out])
  have HE : Hid (∀ x, w1.heap.size ≤ x ∧ x < w2.heap.size → w5.heap[x]? = w2.heap[x]?) := Lib.hid fun x hx => by
    rw [H5.out.old (by omega) (by omega), H3.out.old (by omega) (by omega)]
  have HT := Lib.hid (((HU.out.trans H1.out).trans HK12.out).trans (H3.out.trans H5.out))
  go_wp2_with (first | (refine wpList_load_row rfl 27 (.tmp 3) rfl b3 rfl 27 _ (0, 0) _ HX.out Tryd.underlying27 rfl size27r ?_) | (refine wpList_store_row rfl 27 (.tmp 2) (.tmp 12) rfl b2 (nodeC k u (.slice p n c)) rfl rfl 27 _ HY.out size27r rfl (nodeC_one _ _ _ _ _) ?_))
  refine bodyPost_ret (v := .agg (nodeC k u (.slice p n c))) (results_cell_row rfl _ _ b2 27 _ (0, 0) _ rfl (setRow_heap w5 b2 _ _ 27 (0, 0) HY.out) Tryd.underlying27 rfl size27r) rfl ⟨⟨_, rfl, ?_⟩, Gk.row HT.out (by omega) hne⟩
  refine HRV.out.mono (fun x hx => ?_) (fun x hx _ => ?_)
  · have h1 : (w5.setRow b2 (nodeC k u (.slice p n c))).heap.size = w5.heap.size := by simp
    rw [h1]; omega
  · rw [setRow_other w5 b2 x _ (by omega)]
    exact HE.out x (by omega)
end Go.Proofs.YtmjojahkbjlcdaaDoor
end
