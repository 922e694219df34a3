/- Texts of package regs, one behind the other. -/
import Derived.Test.YtmjojahkbjlcdaaDoorProg
import Derived.Test.YtmjojahkbjlcdaaDoorY4
import Derived.Test.YtmjojahkbjlcdaaDoorY6
import Derived.WalkKit
import Derived.WalkLawsBesides
import Derived.WalkSpells
import Derived.Outline
import Derived.Lib.Walk
import Derived.Lib.Hide
import Derived.RegionTactic
import Derived.LoopTactic
import Derived.Below
import Derived.IntWalk
import Derived.Lib.Slices
import Derived.Lib.Strings
import Derived.Deep.LoopGhost
import Derived.RegionCalls
import Derived.Deep.RegionWith
import Derived.Laws.ResultCell
section
/- The reader: a sign, a byte as it is written, an item. -/
namespace Go.Proofs.YtmjojahkbjlcdaaDoor
set_option linter.unusedSimpArgs false
set_option linter.unusedVariables false
set_option maxRecDepth 100000
open Go.RowKit

/-- What a reader's call does: it writes the reader's own block alone. -/
def Rk (rb : Nat) (q : List UInt8) (w w' : World) : Prop := w.grownBy w' (some rb) ∧ w'.heap[rb]? = some (.cells #[.string (bs q)] 132 (0, 0))
theorem Rk.refl {rb : Nat} {q : List UInt8} {w : World} (h : w.heap[rb]? = some (.cells #[.string (bs q)] 132 (0, 0))) : Rk rb q w w := ⟨⟨rfl, rfl, rfl, Nat.le_refl _, fun _ _ _ => rfl⟩, h⟩
theorem Rk.trans {rb : Nat} {q r : List UInt8} {w w1 w2 : World} (h : Rk rb q w w1) (k : Rk rb r w1 w2) : Rk rb r w w2 :=
  ⟨⟨k.1.os.trans h.1.os, k.1.tape.trans h.1.tape, k.1.output.trans h.1.output, Nat.le_trans h.1.size k.1.size, fun j hj hne => (k.1.block j (Nat.lt_of_lt_of_le hj h.1.size) hne).trans (h.1.block j hj hne)⟩, k.2⟩
theorem Rk.set {rb : Nat} {old : Array Value} {w : World} (h : w.heap[rb]? = some (.cells old 132 (0, 0))) (q : List UInt8) (ho : old.size = 1) : Rk rb q w (w.setCell ⟨rb, 0, none⟩ (.string (bs q))) := by
  refine ⟨⟨rfl, rfl, rfl, by simp [World.setCell], fun k hk hne => heap_setCell_other w _ k _ (fun e => hne (by rw [e]))⟩, ?_⟩
  rw [heap_setCell_same w rb 0 old 132 _ h]
  congr 2
  apply Array.ext_getElem?
  intro i
  rw [Array.getElem?_setIfInBounds]
  by_cases hi : 0 = i
  · subst hi; simp [ho]
  · have e1 : old[i]? = none := by simp; omega
    rw [if_neg hi, e1]; simp; omega
theorem Rk.sb {rb : Nat} {q : List UInt8} {o : Obj} {w0 w w' : World} {L : List (Nat × Obj)} (h : Sb w0 w ((rb, o) :: L)) (hne : ∀ c ∈ L, c.1 ≠ rb) (k : Rk rb q w w') : Sb w0 w' ((rb, .cells #[.string (bs q)] 132 (0, 0)) :: L) := by
  have hb := h.2 _ (List.mem_cons_self ..)
  refine ⟨⟨k.1.os.trans h.1.os, k.1.tape.trans h.1.tape, k.1.output.trans h.1.output, Nat.le_trans h.1.size k.1.size, fun j hj => ?_⟩, fun c hc => ?_⟩
  · refine (k.1.block j (Nat.lt_of_lt_of_le hj h.1.size) (fun e => ?_)).trans (h.1.block j hj)
    have := Option.some.inj e
    have hb1 : w0.heap.size ≤ rb := hb.1
    omega
  · rcases List.mem_cons.1 hc with rfl | hc
    · exact ⟨hb.1, k.2⟩
    · have hh := h.2 c (List.mem_cons_of_mem _ hc)
      exact ⟨hh.1, (k.1.block c.1 (Array.getElem?_eq_some_iff.1 hh.2).1 (fun e => hne c hc (Option.some.inj e))).trans hh.2⟩
def Rat (rb : Nat) (l : List UInt8) (w : World) : Prop := w.heap[rb]? = some (.cells #[.string (bs l)] 132 (0, 0))
theorem Rat.c {rb : Nat} {l : List UInt8} {w : World} (h : Rat rb l w) : w.cell? ⟨rb, 0, none⟩ = some (.string (bs l)) := cell_of_row w rb 0 _ 132 (0, 0) h
theorem Rat.f {rb : Nat} {l : List UInt8} {w : World} (h : Rat rb l w) : w.frozen? ⟨rb, 0, none⟩ = false := frozen_of_row w rb 0 _ 132 h
theorem Rat.lt {rb : Nat} {l : List UInt8} {w : World} (h : Rat rb l w) : rb < w.heap.size := (Array.getElem?_eq_some_iff.1 h).1
theorem bs_size (l : List UInt8) : (bs l).size = l.length := rfl
theorem bs_tail (c : UInt8) (q : List UInt8) : (bs (c :: q)).extract 1 (bs (c :: q)).size = bs q := by
  apply ByteArray.ext
  rw [ByteArray.data_extract]
  apply Array.toList_inj.mp
  rw [Array.toList_extract, List.extract_eq_drop_take']
  simp [bs, ByteArray.size]

theorem bs_ne (c : UInt8) (q : List UInt8) : (bs (c :: q)).toList.isEmpty = false ∧ ¬ (bs (c :: q)).toList = [] := by
  rw [Lib.toList_data]; simp
theorem bs_nil : (bs []).toList.isEmpty = true ∧ (bs []).toList = [] := by
  rw [Lib.toList_data]; simp

set_option maxHeartbeats 2000000 in
theorem sign_yes (rb : Nat) (c : UInt8) (q : List UInt8) (w : World) (h : Rat rb (c :: q) w) (hl : q.length < 4611686018427387904) :
    Calls Tryd.prog 116 #[.pointer (some ⟨rb, 0, none⟩), .int .u8 c.toNat] w fun e w' => e = .returned (.bool true) ∧ Rk rb q w w' := by
  have c0 := h.c
  have f0 := h.f
  have z0 := h.lt
  have hR := Lib.hid (Rk.set h q rfl)
  have ht := bs_tail c q
  obtain ⟨hne, hne2⟩ := bs_ne c q
  have hs : (bs (c :: q)).size = q.length + 1 := rfl
  have hg : ∀ h, (bs (c :: q))[0]'h = c := fun _ => rfl
  clear h
  generalize bs (c :: q) = s at *
  generalize bs q = t at *
  rw [hs] at ht
  go_enter Tryd.func116, Tryd.ntmps116
  go_wp2
  go_ret
  exact ⟨rfl, hR.out⟩
set_option maxHeartbeats 2000000 in
theorem sign_other (rb : Nat) (c x : UInt8) (q : List UInt8) (w : World) (h : Rat rb (x :: q) w) (hx : x ≠ c) (hl : q.length < 4611686018427387904) :
    Calls Tryd.prog 116 #[.pointer (some ⟨rb, 0, none⟩), .int .u8 c.toNat] w fun e w' => e = .returned (.bool false) ∧ Rk rb (x :: q) w w' := by
  have c0 := h.c
  have f0 := h.f
  have z0 := h.lt
  have hR := Lib.hid (Rk.refl h)
  obtain ⟨hne, hne2⟩ := bs_ne x q
  have hs : (bs (x :: q)).size = q.length + 1 := rfl
  have hg : ∀ h, (bs (x :: q))[0]'h = x := fun _ => rfl
  have hc : ((x.toNat : Int) != (c.toNat : Int)) = true := by
    rw [bne_iff_ne]; intro e; exact hx (UInt8.toNat_inj.1 (by omega))
  have hc2 : ((x.toNat : Int) == (c.toNat : Int)) = false := by
    rw [beq_eq_false_iff_ne]; intro e; exact hx (UInt8.toNat_inj.1 (by omega))
  clear h hx
  generalize bs (x :: q) = s at *
  go_enter Tryd.func116, Tryd.ntmps116
  go_wp2
  go_ret
  exact ⟨rfl, hR.out⟩
theorem sign_nil (rb : Nat) (c : UInt8) (w : World) (h : Rat rb [] w) :
    Calls Tryd.prog 116 #[.pointer (some ⟨rb, 0, none⟩), .int .u8 c.toNat] w fun e w' => e = .returned (.bool false) ∧ Rk rb [] w w' := by
  have c0 := h.c
  have f0 := h.f
  have z0 := h.lt
  have hR := Lib.hid (Rk.refl h)
  obtain ⟨hne, hne2⟩ := bs_nil
  clear h
  generalize bs [] = s at *
  go_enter Tryd.func116, Tryd.ntmps116
  go_wp2
  go_ret
  exact ⟨rfl, hR.out⟩

theorem one_esc (d : UInt8) (q : List UInt8) : one (92 :: d :: q) = (mt d).map fun x => (x, q) := by simp [one]
theorem one_oth (c : UInt8) (r : List UInt8) (h : c ≠ 92) : one (c :: r) = if sp c then none else some (c, r) := by simp [one, h]
def retB (x : UInt8) (b : Bool) : Ending := .returned (.tuple #[.int .u8 x.toNat, .bool b])
/-- What reading a byte answers. -/
def OneP (rb : Nat) (o : Option (UInt8 × List UInt8)) (w : World) (e : Ending) (w' : World) : Prop :=
  match o with
  | some (x, q) => e = retB x true ∧ Rk rb q w w'
  | none => ∃ x q, e = retB x false ∧ Rk rb q w w'
set_option maxHeartbeats 4000000 in
theorem written_any (rb : Nat) (l : List UInt8) (w : World) (h : Rat rb l w) (hl : l.length < 4611686018427387904) :
    Calls Tryd.prog 119 #[.pointer (some ⟨rb, 0, none⟩)] w (OneP rb (one l) w) := by
  cases l with
  | nil =>
    have hsn := Lib.hid (sign_nil rb 92 w h)
    go_enter Tryd.func119, Tryd.ntmps119
    go_wp2_with fail
    refine hsn.out.mono ?_
    rintro _ w1 ⟨rfl, hk⟩
    have c0 := Rat.c (l := []) hk.2
    have HK := Lib.hid hk
    obtain ⟨hne, hne2⟩ := bs_nil
    clear hk
    generalize hbs : bs [] = s at c0 hne hne2
    clear hbs
    go_wp2
    go_ret2
    exact ⟨0, [], rfl, HK.out⟩
  | cons c r =>
    by_cases hc : c = 92
    · subst hc
      have hsn := Lib.hid (sign_yes rb 92 r w h (by simp at hl; omega))
      cases r with
      | nil =>
        go_enter Tryd.func119, Tryd.ntmps119
        go_wp2_with fail
        refine hsn.out.mono ?_
        rintro _ w1 ⟨rfl, hk⟩
        have c0 := Rat.c (l := []) hk.2
        have HK := Lib.hid hk
        obtain ⟨hne, hne2⟩ := bs_nil
        clear hk
        generalize hbs : bs [] = s at c0 hne hne2
        clear hbs
        go_wp2
        go_ret2
        exact ⟨0, [], rfl, HK.out⟩
      | cons d q =>
        have hm := Lib.hid (meant_any d)
        go_enter Tryd.func119, Tryd.ntmps119
        go_wp2_with fail
        refine hsn.out.mono ?_
        rintro _ w1 ⟨rfl, hk⟩
        have c0 := Rat.c (l := d :: q) hk.2
        have f0 := Rat.f (l := d :: q) hk.2
        have z0 := Rat.lt (l := d :: q) hk.2
        have HK := Lib.hid hk
        have HR := Lib.hid (hk.trans (Rk.set hk.2 q rfl))
        clear hk
        have ht := bs_tail d q
        obtain ⟨hne, hne2⟩ := bs_ne d q
        have hs : (bs (d :: q)).size = q.length + 1 := rfl
        have hg : ∀ h, (bs (d :: q))[0]'h = d := fun _ => rfl
        have hql : q.length < 4611686018427387904 := by simp at hl; omega
        generalize bs (d :: q) = s at c0 ht hne hne2 hs hg
        generalize bs q = t at *
        rw [hs] at ht
        go_wp2_with fail
        refine (hm.out _).mono ?_
        rintro _ _ ⟨rfl, rfl⟩
        go_wp2
        go_ret2
        have hmt := mt_is d
        rw [one_esc, hmt]
        clear hmt
        cases hb : mtB d
        · exact ⟨mtV d, q, rfl, HR.out⟩
        · exact ⟨rfl, HR.out⟩
    · have hsn := Lib.hid (sign_other rb 92 c r w h hc (by simp at hl; omega))
      have his := Lib.hid (isSign_any c)
      go_enter Tryd.func119, Tryd.ntmps119
      go_wp2_with fail
      refine hsn.out.mono ?_
      rintro _ w1 ⟨rfl, hk⟩
      have c0 := Rat.c (l := c :: r) hk.2
      have f0 := Rat.f (l := c :: r) hk.2
      have z0 := Rat.lt (l := c :: r) hk.2
      have HR := Lib.hid (hk.trans (Rk.set hk.2 r rfl))
      clear hk
      have ht := bs_tail c r
      obtain ⟨hne, hne2⟩ := bs_ne c r
      have hs : (bs (c :: r)).size = r.length + 1 := rfl
      have hg : ∀ h, (bs (c :: r))[0]'h = c := fun _ => rfl
      have hql : r.length < 4611686018427387904 := by simp at hl; omega
      generalize bs (c :: r) = s at c0 ht hne hne2 hs hg
      generalize bs r = t at *
      rw [hs] at ht
      have HC := Lib.hid hc
      clear hc
      go_wp2_with fail
      refine (his.out _).mono ?_
      rintro _ _ ⟨rfl, rfl⟩
      go_wp2
      go_ret2
      rw [one_oth c r HC.out]
      cases hb : sp c
      · exact ⟨rfl, HR.out⟩
      · exact ⟨c, r, rfl, HR.out⟩

def retI (x y : UInt8) (b : Bool) : Ending := .returned (.tuple #[.int .u8 x.toNat, .int .u8 y.toNat, .bool b])
/-- What reading an item answers. -/
def ItmP (rb : Nat) (o : Option (UInt8 × UInt8 × List UInt8)) (w : World) (e : Ending) (w' : World) : Prop :=
  match o with
  | some (x, y, q) => e = retI x y true ∧ Rk rb q w w'
  | none => ∃ x y q, e = retI x y false ∧ Rk rb q w w'
theorem one_le (l : List UInt8) (c : UInt8) (r : List UInt8) (h : one l = some (c, r)) : r.length ≤ l.length := by
  obtain ⟨n, hn, hl, hr⟩ := one_len l c r h
  rw [hr]; simp
set_option maxHeartbeats 4000000 in
theorem item_any (rb : Nat) (l : List UInt8) (w : World) (h : Rat rb l w) (hl : l.length < 4611686018427387904) :
    Calls Tryd.prog 117 #[.pointer (some ⟨rb, 0, none⟩)] w (ItmP rb (itm l) w) := by
  have hw := Lib.hid (written_any rb l w h hl)
  cases ho : one l with
  | none =>
    have hi : itm l = none := by unfold itm; rw [ho]
    rw [hi]
    rw [ho] at hw
    unfold OneP at hw
    clear ho hi
    go_enter Tryd.func117, Tryd.ntmps117
    go_wp2_with fail
    refine hw.out.mono ?_
    rintro _ w1 ⟨x, q, rfl, hk⟩
    have HK := Lib.hid hk
    clear hk
    unfold retB
    go_wp2
    go_ret3
    exact ⟨x, x, q, rfl, HK.out⟩
  | some p =>
    obtain ⟨a, r⟩ := p
    have hrl := one_le l a r ho
    rw [ho] at hw
    unfold OneP at hw
    cases r with
    | nil =>
      have hi : itm l = some (a, a, []) := by unfold itm; rw [ho]
      rw [hi]
      clear ho hi
      go_enter Tryd.func117, Tryd.ntmps117
      go_wp2_with fail
      refine hw.out.mono ?_
      rintro _ w1 ⟨rfl, hk⟩
      have HK := Lib.hid hk
      clear hk
      unfold retB
      go_wp2_with fail
      refine (sign_nil rb 45 _ HK.out.2).mono ?_
      rintro _ w2 ⟨rfl, hk⟩
      have HK2 := Lib.hid (HK.out.trans hk)
      clear hk
      go_wp2
      go_ret3
      exact ⟨rfl, HK2.out⟩
    | cons d q =>
      simp only [List.length_cons] at hrl
      by_cases hd : d = 45
      · subst hd
        cases ho2 : one q with
        | none =>
          have hi : itm l = none := by unfold itm; rw [ho]; simp [ho2]
          rw [hi]
          clear ho hi
          go_enter Tryd.func117, Tryd.ntmps117
          go_wp2_with fail
          refine hw.out.mono ?_
          rintro _ w1 ⟨rfl, hk⟩
          have HK := Lib.hid hk
          clear hk
          unfold retB
          go_wp2_with fail
          refine (sign_yes rb 45 q _ HK.out.2 (by omega)).mono ?_
          rintro _ w2 ⟨rfl, hk⟩
          have HK2 := Lib.hid (HK.out.trans hk)
          have hw2 := Lib.hid (written_any rb q w2 hk.2 (by omega))
          rw [ho2] at hw2
          unfold OneP at hw2
          clear hk ho2
          go_wp2_with fail
          refine hw2.out.mono ?_
          rintro _ w3 ⟨x, t, rfl, hk⟩
          have HK3 := Lib.hid (HK2.out.trans hk)
          clear hk
          unfold retB
          go_wp2
          go_ret3
          exact ⟨a, x, t, rfl, HK3.out⟩
        | some p2 =>
          obtain ⟨b, t⟩ := p2
          have key : ∀ v : Bool, decide (a.toNat ≤ b.toNat) = v → Calls Tryd.prog 117 #[.pointer (some ⟨rb, 0, none⟩)] w fun e w' => e = retI a b v ∧ Rk rb t w w' := by
            intro v hv
            clear ho
            go_enter Tryd.func117, Tryd.ntmps117
            go_wp2_with fail
            refine hw.out.mono ?_
            rintro _ w1 ⟨rfl, hk⟩
            have HK := Lib.hid hk
            clear hk
            unfold retB
            go_wp2_with fail
            refine (sign_yes rb 45 q _ HK.out.2 (by omega)).mono ?_
            rintro _ w2 ⟨rfl, hk⟩
            have HK2 := Lib.hid (HK.out.trans hk)
            have hw2 := Lib.hid (written_any rb q w2 hk.2 (by omega))
            rw [ho2] at hw2
            unfold OneP at hw2
            clear hk ho2
            go_wp2_with fail
            refine hw2.out.mono ?_
            rintro _ w3 ⟨rfl, hk⟩
            have HK3 := Lib.hid (HK2.out.trans hk)
            clear hk
            unfold retB
            go_wp2
            go_ret3
            exact ⟨by first | rfl | (subst hv; rfl), HK3.out⟩
          by_cases hab : a ≤ b
          · have hi : itm l = some (a, b, t) := by unfold itm; rw [ho]; simp [ho2, hab]
            rw [hi]
            exact key true (by rw [UInt8.le_iff_toNat_le] at hab; simpa using hab)
          · have hi : itm l = none := by unfold itm; rw [ho]; simp [ho2, hab]
            rw [hi]
            refine (key false (by rw [UInt8.le_iff_toNat_le] at hab; simpa using hab)).mono fun e w' he => ⟨a, b, t, he⟩
      · have hi : itm l = some (a, a, d :: q) := by unfold itm; rw [ho]; simp [hd]
        rw [hi]
        clear ho hi
        go_enter Tryd.func117, Tryd.ntmps117
        go_wp2_with fail
        refine hw.out.mono ?_
        rintro _ w1 ⟨rfl, hk⟩
        have HK := Lib.hid hk
        clear hk
        unfold retB
        go_wp2_with fail
        refine (sign_other rb 45 d q _ HK.out.2 hd (by omega)).mono ?_
        rintro _ w2 ⟨rfl, hk⟩
        have HK2 := Lib.hid (HK.out.trans hk)
        clear hk
        go_wp2
        go_ret3
        exact ⟨rfl, HK2.out⟩
end Go.Proofs.YtmjojahkbjlcdaaDoor
end
section
/- Parse: what a text says. -/
namespace Go.Proofs.YtmjojahkbjlcdaaDoor
set_option linter.unusedSimpArgs false
set_option linter.unusedVariables false
set_option maxRecDepth 100000
open Go.RowKit

def PE : Option (Nat → Bool) → Ending
  | some f => .returned (.tuple #[setV f, .int .i64 0])
  | none => .returned (.tuple #[.agg #[.int .u64 0, .int .u64 0, .int .u64 0, .int .u64 0], .int .i64 50])
def fin (v : Bool) : Option ((Nat → Bool) × List UInt8) → Option (Nat → Bool)
  | some (f, []) => some (if v then noF f else f)
  | _ => none
theorem wc_none : wc (fun _ => false) = #[.int .u64 0, .int .u64 0, .int .u64 0, .int .u64 0] := by unfold wc; simp only [W_none]; rfl
abbrev z24 : Array Value := #[.int .u64 0, .int .u64 0, .int .u64 0, .int .u64 0]
/-- The reader, the set so far, the answer's block. -/
abbrev PL (w : World) (sb : Nat) (q : List UInt8) (f : Nat → Bool) : List (Nat × Obj) := [(w.heap.size + 1, .cells #[.string (bs q)] 132), (sb, .cells (wc f) 24), (w.heap.size, .cells z24 24)]
theorem Sb.swap {w0 w : World} {a b : Nat × Obj} {L : List (Nat × Obj)} (h : Sb w0 w (a :: b :: L)) : Sb w0 w (b :: a :: L) := h.sub fun c hc => by
  rcases List.mem_cons.1 hc with rfl | hc
  · simp
  · rcases List.mem_cons.1 hc with rfl | hc
    · simp
    · simp [hc]
theorem Sb.rot {w0 w : World} {a b c : Nat × Obj} (h : Sb w0 w [a, b, c]) : Sb w0 w [c, a, b] := h.sub fun x hx => by
  simp only [List.mem_cons, List.not_mem_nil, or_false] at hx ⊢
  rcases hx with h | h | h
  · exact .inr (.inr h)
  · exact .inl h
  · exact .inr (.inl h)
theorem Sb.set4 {w0 w : World} {b : Nat} {cs : Array Value} {L : List (Nat × Obj)} (h : Sb w0 w ((b, .cells cs 24) :: L)) (hs : cs.size = 4) (x0 x1 x2 x3 : Value) (hne : ∀ c ∈ L, c.1 ≠ b) :
    Sb w0 ((((w.setCell ⟨b, 0, none⟩ x0).setCell ⟨b, 1, none⟩ x1).setCell ⟨b, 2, none⟩ x2).setCell ⟨b, 3, none⟩ x3) ((b, .cells #[x0, x1, x2, x3] 24) :: L) := by
  have k := (((h.set (i := 0) x0 hne).set (i := 1) x1 hne).set (i := 2) x2 hne).set (i := 3) x3 hne
  have e : (((cs.setIfInBounds 0 x0).setIfInBounds 1 x1).setIfInBounds 2 x2).setIfInBounds 3 x3 = #[x0, x1, x2, x3] := by
    apply Array.ext_getElem?
    intro j
    by_cases hj : j < 4
    · rcases (by omega : j = 0 ∨ j = 1 ∨ j = 2 ∨ j = 3) with rfl | rfl | rfl | rfl <;> simp [Array.getElem?_setIfInBounds, hs]
    · rw [Array.getElem?_eq_none (by simp [hs]; omega), Array.getElem?_eq_none (by simp; omega)]
  rwa [e] at k
theorem wc_size (f : Nat → Bool) : (wc f).size = 4 := rfl
theorem res_set {fn : Func} {p u : Tmp} (h : fn.results = #[.cell p 24, .tmp u]) (tmps : Array Value) (w : World) (g : Nat) (cs : Array Value) (x : Value) (hp : tmps.getD p undef = .pointer (some ⟨g, 0, none⟩)) (hg : w.heap[g]? = some (.cells cs 24 (0, 0)))
    (hi : cs.size = 4) (hx : tmps.getD u undef = x) : (results fn tmps).run Tryd.prog w = .ok (.tuple #[.agg cs, x]) w := by
  rw [results_cell_tmp h, hp, hx]
  have hl := run_loadVar_row (P := Tryd.prog) w g 24 24 cs (0, 0) _ hg Tryd.underlying24 rfl (by rw [hi]; kernel_rfl)
  simp [asAddr, Result.andThen, hl]
theorem fin_none (v : Bool) : fin v none = none := rfl
set_option maxHeartbeats 8000000 in
set_option maxRecDepth 100000 in
theorem parse_body (r q0 : List UInt8) (v : Bool) (hl : r.length ≤ 140737488355328) (hq : q0.length ≤ r.length)
    (h2 : ∀ rb w, Rat rb r w → Calls Tryd.prog 116 #[.pointer (some ⟨rb, 0, none⟩), .int .u8 94] w fun e w' => e = .returned (.bool v) ∧ Rk rb q0 w w') (w : World) :
    Calls Tryd.prog 113 #[.string (bs (91 :: r))] w fun e w' => e = PE (fin v (bd q0 fun _ => false)) ∧ Below w.heap.size w w' := by
  have S0 := Lib.hid (((Sb.start w).alloc (.cells #[.int .u64 0, .int .u64 0, .int .u64 0, .int .u64 0] 24)).alloc (.cells #[.string (bs (91 :: r))] 132))
  have H2 := Lib.hid h2
  clear h2
  obtain ⟨R, hR⟩ : ∃ R, bd q0 (fun _ => false) = R := ⟨_, rfl⟩
  rw [hR]
  have hR' := Lib.hid hR
  clear hR
  generalize hbs : bs (91 :: r) = s0 at S0 ⊢
  have hbs' := Lib.hid hbs
  clear hbs
  go_enter Tryd.func113, Tryd.ntmps113
  go_wp2_with fail
  have hs0 := Lib.hid (show Sb w ((w.alloc (.cells #[.int .u64 0, .int .u64 0, .int .u64 0, .int .u64 0] 24)).alloc (.cells #[.string s0] 132)) [(w.heap.size + 1, .cells #[.string (bs (91 :: r))] 132), (w.heap.size, .cells #[.int .u64 0, .int .u64 0, .int .u64 0, .int .u64 0] 24)] by simpa [hbs'.out] using S0.out)
  refine (sign_yes (w.heap.size + 1) 91 r _ hs0.out.heap (by omega)).mono ?_
  rintro _ w1 ⟨rfl, hk⟩
  have HS1 := Lib.hid (hk.sb hs0.out (by simp))
  clear hk S0
  go_wp2_with fail
  refine (H2.out (w.heap.size + 1) _ HS1.out.heap).mono ?_
  rintro _ w2 ⟨rfl, hk⟩
  have HS2 := Lib.hid (hk.sb HS1.out (by simp))
  clear hk HS1 hs0
  have hz : w.heap.size + 1 < w2.heap.size := HS2.out.lt
  have HS3 := Lib.hid (show Sb w (w2.alloc (.cells z24 24)) (PL w w2.heap.size q0 fun _ => false) by rw [PL, wc_none]; exact (HS2.out.alloc (.cells z24 24)).swap)
  clear HS2
  go_wp2_with fail
  generalize w2.heap.size = sb at *
  go_loopg [7] (q0.length + 1) (fun g x wr => ∃ q f, q.length < g ∧ q.length ≤ 140737488355328 ∧ bd q f = R ∧ Sb w wr (PL w sb q f))
  case atStart => exact ⟨q0, _, by omega, by omega, hR'.out, HS3.out⟩
  case round =>
    obtain ⟨q, f, hg, hql, hbd, hS⟩ := hrel
    obtain ⟨gj, rfl⟩ : ∃ gj, gk = gj + 1 := ⟨gk - 1, by omega⟩
    have HS := Lib.hid hS
    clear hS HS3 H2 hR' hbs'
    have hne1 : ∀ c ∈ [(sb, Obj.cells (wc f) 24), (w.heap.size, Obj.cells z24 24)], c.1 ≠ w.heap.size + 1 := by simp; omega
    have HN1 := Lib.hid hne1
    clear hne1
    cases q with
    | nil =>
      have hR : R = none := by rw [← hbd]; exact bd_nil f
      subst hR
      clear hbd
      go_wp2_with fail
      refine (sign_nil (w.heap.size + 1) 93 _ HS.out.heap).mono ?_
      rintro _ w3 ⟨rfl, hk⟩
      have HS4 := Lib.hid (hk.sb HS.out HN1.out)
      clear hk HS
      go_wp2_with fail
      refine (item_any (w.heap.size + 1) [] _ HS4.out.heap (by simp)).mono ?_
      rintro _ w4 ⟨x, y, q', rfl, hk⟩
      have HS5 := Lib.hid (hk.sb HS4.out HN1.out)
      clear hk HS4
      unfold retI
      have d0 := HS5.out.tl.tl.cell 0; have d1 := HS5.out.tl.tl.cell 1; have d2 := HS5.out.tl.tl.cell 2; have d3 := HS5.out.tl.tl.cell 3
      have g0 := HS5.out.tl.tl.free 0; have g1 := HS5.out.tl.tl.free 1; have g2 := HS5.out.tl.tl.free 2; have g3 := HS5.out.tl.tl.free 3
      simp at d0 d1 d2 d3
      have z9 := HS5.out.tl.tl.lt
      have HE := Lib.hid (Sb.set4 HS5.out.rot rfl (.int .u64 0) (.int .u64 0) (.int .u64 0) (.int .u64 0) (by simp; omega))
      go_wp2
      (try simp only [Exit.inBlock, Exit.then])
      refine bodyPost_ret (v := .tuple #[.agg z24, .int .i64 50]) (res_set rfl _ _ w.heap.size z24 _ rfl HE.out.heap rfl rfl) rfl ⟨rfl, HE.out.1⟩
    | cons c t =>
      have htl : t.length < 140737488355328 := by simp at hql; omega
      by_cases hc : c = 93
      · subst hc
        have hR : R = some (f, t) := by rw [← hbd]; exact bd_end t f
        subst hR
        clear hbd
        go_wp2_with fail
        refine (sign_yes (w.heap.size + 1) 93 t _ HS.out.heap (by omega)).mono ?_
        rintro _ w3 ⟨rfl, hk⟩
        have HS5 := Lib.hid (hk.sb HS.out HN1.out)
        clear hk HS
        have c0 := Rat.c (l := t) HS5.out.heap
        cases t with
        | nil =>
          obtain ⟨hne, hne2⟩ := bs_nil
          generalize hbs : bs [] = s at c0 hne hne2
          clear hbs
          cases v
          · have HT := Lib.hid HS5.out.tl
            have e0 := HT.out.word 0 (by omega); have e1 := HT.out.word 1 (by omega); have e2 := HT.out.word 2 (by omega); have e3 := HT.out.word 3 (by omega)
            have d0 := HS5.out.tl.tl.cell 0; have d1 := HS5.out.tl.tl.cell 1; have d2 := HS5.out.tl.tl.cell 2; have d3 := HS5.out.tl.tl.cell 3
            have g0 := HS5.out.tl.tl.free 0; have g1 := HS5.out.tl.tl.free 1; have g2 := HS5.out.tl.tl.free 2; have g3 := HS5.out.tl.tl.free 3
            simp at d0 d1 d2 d3
            have z9 := HS5.out.tl.tl.lt
            have HE := Lib.hid (Sb.set4 HS5.out.rot rfl (.int .u64 (W f 0)) (.int .u64 (W f 1)) (.int .u64 (W f 2)) (.int .u64 (W f 3)) (by simp; omega))
            go_wp2
            (try simp only [Exit.inBlock, Exit.then])
            refine bodyPost_ret (v := .tuple #[setV f, .int .i64 0]) (res_set rfl _ _ w.heap.size (wc f) _ rfl HE.out.heap rfl rfl) rfl ⟨rfl, HE.out.1⟩
          · have HT := Lib.hid HS5.out.tl
            have e0 := HT.out.word 0 (by omega); have e1 := HT.out.word 1 (by omega); have e2 := HT.out.word 2 (by omega); have e3 := HT.out.word 3 (by omega)
            go_wp2_with fail
            refine (not_any f _).mono ?_
            rintro _ w4 ⟨rfl, hb⟩
            have HS6 := Lib.hid (HS5.out.up hb)
            clear e0 e1 e2 e3 HT hb HS5 c0
            rw [show (fun b => !f b) = noF f from rfl]
            have HT := Lib.hid HS6.out.tl
            have e0 := HT.out.word 0 (by omega); have e1 := HT.out.word 1 (by omega); have e2 := HT.out.word 2 (by omega); have e3 := HT.out.word 3 (by omega)
            have p0 := HT.out.free 0; have p1 := HT.out.free 1; have p2 := HT.out.free 2; have p3 := HT.out.free 3
            have z8 := HT.out.lt
            have d0 := HS6.out.tl.tl.cell 0; have d1 := HS6.out.tl.tl.cell 1; have d2 := HS6.out.tl.tl.cell 2; have d3 := HS6.out.tl.tl.cell 3
            have g0 := HS6.out.tl.tl.free 0; have g1 := HS6.out.tl.tl.free 1; have g2 := HS6.out.tl.tl.free 2; have g3 := HS6.out.tl.tl.free 3
            simp at d0 d1 d2 d3
            have z9 := HS6.out.tl.tl.lt
            have hns : w.heap.size ≠ sb := by omega
            have HE1 := Lib.hid (Sb.set4 HT.out (wc_size f) (.int .u64 (W (noF f) 0)) (.int .u64 (W (noF f) 1)) (.int .u64 (W (noF f) 2)) (.int .u64 (W (noF f) 3)) (by simp; omega))
            have HE := Lib.hid (Sb.set4 HE1.out.swap rfl (.int .u64 (W (noF f) 0)) (.int .u64 (W (noF f) 1)) (.int .u64 (W (noF f) 2)) (.int .u64 (W (noF f) 3)) (by simp; omega))
            go_wp2
            (try simp only [Exit.inBlock, Exit.then])
            refine bodyPost_ret (v := .tuple #[setV (noF f), .int .i64 0]) (res_set rfl _ _ w.heap.size (wc (noF f)) _ rfl HE.out.heap rfl rfl) rfl ⟨rfl, HE.out.1⟩
        | cons x t' =>
          obtain ⟨hne, hne2⟩ := bs_ne x t'
          generalize hbs : bs (x :: t') = s at c0 hne hne2
          clear hbs
          have d0 := HS5.out.tl.tl.cell 0; have d1 := HS5.out.tl.tl.cell 1; have d2 := HS5.out.tl.tl.cell 2; have d3 := HS5.out.tl.tl.cell 3
          have g0 := HS5.out.tl.tl.free 0; have g1 := HS5.out.tl.tl.free 1; have g2 := HS5.out.tl.tl.free 2; have g3 := HS5.out.tl.tl.free 3
          simp at d0 d1 d2 d3
          have z9 := HS5.out.tl.tl.lt
          have HE := Lib.hid (Sb.set4 HS5.out.rot rfl (.int .u64 0) (.int .u64 0) (.int .u64 0) (.int .u64 0) (by simp; omega))
          go_wp2
          (try simp only [Exit.inBlock, Exit.then])
          refine bodyPost_ret (v := .tuple #[.agg z24, .int .i64 50]) (res_set rfl _ _ w.heap.size z24 _ rfl HE.out.heap rfl rfl) rfl ⟨rfl, HE.out.1⟩
      · go_wp2_with fail
        refine (sign_other (w.heap.size + 1) 93 c t _ HS.out.heap hc (by omega)).mono ?_
        rintro _ w3 ⟨rfl, hk⟩
        have HS4 := Lib.hid (hk.sb HS.out HN1.out)
        clear hk HS
        have hit := Lib.hid (item_any (w.heap.size + 1) (c :: t) _ HS4.out.heap (by simp; omega))
        cases hi : itm (c :: t) with
        | none =>
          have hR : R = none := by rw [← hbd]; exact bd_bad c t f hc hi
          subst hR
          rw [hi] at hit
          clear hbd hi
          go_wp2_with fail
          refine hit.out.mono ?_
          rintro _ w4 ⟨x, y, q', rfl, hk⟩
          have HS5 := Lib.hid (hk.sb HS4.out HN1.out)
          clear hk HS4 hit
          unfold retI
          have d0 := HS5.out.tl.tl.cell 0; have d1 := HS5.out.tl.tl.cell 1; have d2 := HS5.out.tl.tl.cell 2; have d3 := HS5.out.tl.tl.cell 3
          have g0 := HS5.out.tl.tl.free 0; have g1 := HS5.out.tl.tl.free 1; have g2 := HS5.out.tl.tl.free 2; have g3 := HS5.out.tl.tl.free 3
          simp at d0 d1 d2 d3
          have z9 := HS5.out.tl.tl.lt
          have HE := Lib.hid (Sb.set4 HS5.out.rot rfl (.int .u64 0) (.int .u64 0) (.int .u64 0) (.int .u64 0) (by simp; omega))
          go_wp2
          (try simp only [Exit.inBlock, Exit.then])
          refine bodyPost_ret (v := .tuple #[.agg z24, .int .i64 50]) (res_set rfl _ _ w.heap.size z24 _ rfl HE.out.heap rfl rfl) rfl ⟨rfl, HE.out.1⟩
        | some p =>
          obtain ⟨a, b, q'⟩ := p
          rw [hi] at hit
          have hR : bd q' (orF f (body.rangeG a b)) = R := by rw [← hbd]; exact (bd_item c t f hc a b q' hi).symm
          have hlen := itm_len _ _ _ _ hi
          have HR2 := Lib.hid hR
          clear hbd hi hR
          go_wp2_with fail
          refine hit.out.mono ?_
          rintro _ w4 ⟨rfl, hk⟩
          have HS5 := Lib.hid (hk.sb HS4.out HN1.out)
          clear hk HS4 hit
          unfold retI
          have ha := a.toNat_lt
          have hb' := b.toNat_lt
          have HT := Lib.hid HS5.out.tl
          have e0 := HT.out.word 0 (by omega); have e1 := HT.out.word 1 (by omega); have e2 := HT.out.word 2 (by omega); have e3 := HT.out.word 3 (by omega)
          have hrg := Lib.hid (range_any a.toNat b.toNat (by omega) (by omega))
          have hun := Lib.hid (union_any f (body.rangeG a b))
          have hg1 : (fun b_1 => f b_1 || body.rangeG a b b_1) = orF f (body.rangeG a b) := rfl
          rw [hg1] at hun
          have hg2 : rangeF a.toNat (b.toNat + 1 - a.toNat) = body.rangeG a b := rfl
          rw [hg2] at hrg
          clear hg1 hg2
          generalize body.rangeG a b = g at *
          generalize orF f g = f' at *
          go_wp2_with fail
          go_region_with (first
            | (go_at_call 108; refine (hrg.out _).mono ?_; rintro _ w5 ⟨rfl, hb⟩; have HS6 := Lib.hid (HS5.out.drew.up hb); have k0 := HS6.out.tl.word 0 (by omega); have k1 := HS6.out.tl.word 1 (by omega); have k2 := HS6.out.tl.word 2 (by omega); have k3 := HS6.out.tl.word 3 (by omega); clear hb)
            | (go_at_call 118; refine (hun.out _).mono ?_; rintro _ w6 ⟨rfl, hb⟩; have HS7 := Lib.hid (Sb.up (by first | exact HS6.out | exact HS6.out.drew) hb); have m0 := HS7.out.tl.word 0 (by omega); have m1 := HS7.out.tl.word 1 (by omega); have m2 := HS7.out.tl.word 2 (by omega); have m3 := HS7.out.tl.word 3 (by omega); have q0 := HS7.out.tl.free 0; have q1 := HS7.out.tl.free 1; have q2 := HS7.out.tl.free 2; have q3 := HS7.out.tl.free 3; clear hb))
          all_goals
            (have HE := Lib.hid (Sb.set4 HS7.out.swap (wc_size f) (.int .u64 (W f' 0)) (.int .u64 (W f' 1)) (.int .u64 (W f' 2)) (.int .u64 (W f' 3)) (by simp; omega))
             go_wp2
             go_roundg gj
             case rel => exact ⟨q', f', by omega, by omega, HR2.out, HE.out.swap⟩
             case measure => omega)

set_option maxHeartbeats 4000000 in
set_option maxRecDepth 100000 in
theorem parse_no (l : List UInt8) (hl : l.length ≤ 140737488355328) (hno : ∀ r, l ≠ 91 :: r) (w : World) :
    Calls Tryd.prog 113 #[.string (bs l)] w fun e w' => e = PE none ∧ Below w.heap.size w w' := by
  have S0 := Lib.hid (((Sb.start w).alloc (.cells z24 24)).alloc (.cells #[.string (bs l)] 132))
  have hsg : ∀ rb w, Rat rb l w → Calls Tryd.prog 116 #[.pointer (some ⟨rb, 0, none⟩), .int .u8 91] w fun e w' => e = .returned (.bool false) ∧ Rk rb l w w' := by
    intro rb w h
    cases l with
    | nil => exact sign_nil rb 91 w h
    | cons c r => exact sign_other rb 91 c r w h (fun e => hno r (by rw [e])) (by simp at hl; omega)
  have HG := Lib.hid hsg
  clear hsg hno
  generalize hbs : bs l = s0 at S0 ⊢
  have hbs' := Lib.hid hbs
  clear hbs
  go_enter Tryd.func113, Tryd.ntmps113
  go_wp2_with fail
  have hs0 := Lib.hid (show Sb w ((w.alloc (.cells z24 24)).alloc (.cells #[.string s0] 132)) [(w.heap.size + 1, .cells #[.string (bs l)] 132), (w.heap.size, .cells z24 24)] by simpa [hbs'.out] using S0.out)
  refine (HG.out (w.heap.size + 1) _ hs0.out.heap).mono ?_
  rintro _ w1 ⟨rfl, hk⟩
  have HS1 := Lib.hid (hk.sb hs0.out (by simp))
  clear hk S0 hs0
  have d0 := HS1.out.tl.cell 0; have d1 := HS1.out.tl.cell 1; have d2 := HS1.out.tl.cell 2; have d3 := HS1.out.tl.cell 3
  have g0 := HS1.out.tl.free 0; have g1 := HS1.out.tl.free 1; have g2 := HS1.out.tl.free 2; have g3 := HS1.out.tl.free 3
  simp at d0 d1 d2 d3
  have z9 := HS1.out.tl.lt
  have HE := Lib.hid (Sb.set4 HS1.out.swap rfl (.int .u64 0) (.int .u64 0) (.int .u64 0) (.int .u64 0) (by simp))
  go_wp2
  refine bodyPost_ret (v := .tuple #[.agg z24, .int .i64 50]) (res_set rfl _ _ w.heap.size z24 _ rfl HE.out.heap rfl rfl) rfl ⟨rfl, HE.out.1⟩

theorem bs_list (s : ByteArray) : s = bs s.data.toList := by cases s; rfl
theorem ps_of (r : List UInt8) (v : Bool) (q : List UInt8) (h : cls (91 :: r) = (bd q fun _ => false).map fun x => (if v then noF x.1 else x.1, x.2)) : ps (91 :: r) = fin v (bd q fun _ => false) := by
  unfold ps
  rw [h]
  cases hb : bd q (fun _ => false) with
  | none => rfl
  | some p =>
    obtain ⟨f, t⟩ := p
    cases t <;> rfl
theorem parse_l (l : List UInt8) (hl : l.length ≤ 140737488355328) (w : World) :
    Calls Tryd.prog 113 #[.string (bs l)] w fun e w' => e = PE (ps l) ∧ Below w.heap.size w w' := by
  cases l with
  | nil => exact parse_no [] hl (by simp) w
  | cons c r =>
    by_cases hc : c = 91
    · subst hc
      have hrl : r.length ≤ 140737488355328 := by simp at hl; omega
      cases r with
      | nil =>
        rw [ps_of [] false [] rfl]
        exact parse_body [] [] false hrl (Nat.le_refl _) (fun rb w h => sign_nil rb 94 w h) w
      | cons d q =>
        by_cases hd : d = 94
        · subst hd
          rw [ps_of (94 :: q) true q (by simp [cls])]
          exact parse_body (94 :: q) q true hrl (by simp) (fun rb w h => sign_yes rb 94 q w h (by simp at hrl; omega)) w
        · rw [ps_of (d :: q) false (d :: q) (by simp [cls, hd])]
          exact parse_body (d :: q) (d :: q) false hrl (Nat.le_refl _) (fun rb w h => sign_other rb 94 d q w h hd (by simp at hrl; omega)) w
    · have hp : ps (c :: r) = none := by simp [ps, cls, hc]
      rw [hp]
      exact parse_no (c :: r) hl (fun r' e => hc (by simp at e; exact e.1)) w
theorem parse_any (s : ByteArray) (hs : s.size ≤ 140737488355328) (w : World) :
    Calls Tryd.prog 113 #[.string s] w fun e w' => e = PE (ps s.data.toList) ∧ Below w.heap.size w w' := by
  have h := parse_l s.data.toList (by simpa using hs) w
  rwa [← bs_list] at h
end Go.Proofs.YtmjojahkbjlcdaaDoor
end
