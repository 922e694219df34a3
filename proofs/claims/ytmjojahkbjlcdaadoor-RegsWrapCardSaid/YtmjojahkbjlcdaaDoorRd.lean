/- The reader: a sign, a byte as it is written, an item. -/
import Derived.Test.YtmjojahkbjlcdaaDoorProg
import Derived.Test.YtmjojahkbjlcdaaDoorX5
import Derived.Test.YtmjojahkbjlcdaaDoorX8
import Derived.WalkKit
import Derived.WalkLawsBesides
import Derived.WalkSpells
import Derived.Outline
import Derived.Lib.Walk
import Derived.Lib.Hide
import Derived.RegionTactic
import Derived.LoopTactic
import Derived.Below
import Derived.IntWalk
import Derived.Lib.Slices
import Derived.Lib.Strings
namespace Go.Proofs.YtmjojahkbjlcdaaDoor
set_option linter.unusedSimpArgs false
set_option linter.unusedVariables false
set_option maxRecDepth 100000
open Go.RowKit

/-- What a reader's call does: it writes the reader's own block alone. -/
def Rk (rb : Nat) (q : List UInt8) (w w' : World) : Prop := w.grownBy w' (some rb) ∧ w'.heap[rb]? = some (.cells #[.string (bs q)] 132 (0, 0))
theorem Rk.refl {rb : Nat} {q : List UInt8} {w : World} (h : w.heap[rb]? = some (.cells #[.string (bs q)] 132 (0, 0))) : Rk rb q w w := ⟨⟨rfl, rfl, rfl, Nat.le_refl _, fun _ _ _ => rfl⟩, h⟩
theorem Rk.trans {rb : Nat} {q r : List UInt8} {w w1 w2 : World} (h : Rk rb q w w1) (k : Rk rb r w1 w2) : Rk rb r w w2 :=
  ⟨⟨k.1.os.trans h.1.os, k.1.tape.trans h.1.tape, k.1.output.trans h.1.output, Nat.le_trans h.1.size k.1.size, fun j hj hne => (k.1.block j (Nat.lt_of_lt_of_le hj h.1.size) hne).trans (h.1.block j hj hne)⟩, k.2⟩
theorem Rk.set {rb : Nat} {old : Array Value} {w : World} (h : w.heap[rb]? = some (.cells old 132 (0, 0))) (q : List UInt8) (ho : old.size = 1) : Rk rb q w (w.setCell ⟨rb, 0, none⟩ (.string (bs q))) := by
  refine ⟨⟨rfl, rfl, rfl, by simp [World.setCell], fun k hk hne => heap_setCell_other w _ k _ (fun e => hne (by rw [e]))⟩, ?_⟩
  rw [heap_setCell_same w rb 0 old 132 _ h]
  congr 2
  apply Array.ext_getElem?
  intro i
  rw [Array.getElem?_setIfInBounds]
  by_cases hi : 0 = i
  · subst hi; simp [ho]
  · have e1 : old[i]? = none := by simp; omega
    rw [if_neg hi, e1]; simp; omega
theorem Rk.sb {rb : Nat} {q : List UInt8} {o : Obj} {w0 w w' : World} {L : List (Nat × Obj)} (h : Sb w0 w ((rb, o) :: L)) (hne : ∀ c ∈ L, c.1 ≠ rb) (k : Rk rb q w w') : Sb w0 w' ((rb, .cells #[.string (bs q)] 132 (0, 0)) :: L) := by
  have hb := h.2 _ (List.mem_cons_self ..)
  refine ⟨⟨k.1.os.trans h.1.os, k.1.tape.trans h.1.tape, k.1.output.trans h.1.output, Nat.le_trans h.1.size k.1.size, fun j hj => ?_⟩, fun c hc => ?_⟩
  · refine (k.1.block j (Nat.lt_of_lt_of_le hj h.1.size) (fun e => ?_)).trans (h.1.block j hj)
    have := Option.some.inj e
    have hb1 : w0.heap.size ≤ rb := hb.1
    omega
  · rcases List.mem_cons.1 hc with rfl | hc
    · exact ⟨hb.1, k.2⟩
    · have hh := h.2 c (List.mem_cons_of_mem _ hc)
      exact ⟨hh.1, (k.1.block c.1 (Array.getElem?_eq_some_iff.1 hh.2).1 (fun e => hne c hc (Option.some.inj e))).trans hh.2⟩
def Rat (rb : Nat) (l : List UInt8) (w : World) : Prop := w.heap[rb]? = some (.cells #[.string (bs l)] 132 (0, 0))
theorem Rat.c {rb : Nat} {l : List UInt8} {w : World} (h : Rat rb l w) : w.cell? ⟨rb, 0, none⟩ = some (.string (bs l)) := cell_of_row w rb 0 _ 132 (0, 0) h
theorem Rat.f {rb : Nat} {l : List UInt8} {w : World} (h : Rat rb l w) : w.frozen? ⟨rb, 0, none⟩ = false := frozen_of_row w rb 0 _ 132 h
theorem Rat.lt {rb : Nat} {l : List UInt8} {w : World} (h : Rat rb l w) : rb < w.heap.size := (Array.getElem?_eq_some_iff.1 h).1
theorem bs_size (l : List UInt8) : (bs l).size = l.length := rfl
theorem bs_tail (c : UInt8) (q : List UInt8) : (bs (c :: q)).extract 1 (bs (c :: q)).size = bs q := by
  apply ByteArray.ext
  rw [ByteArray.data_extract]
  apply Array.toList_inj.mp
  rw [Array.toList_extract, List.extract_eq_drop_take']
  simp [bs, ByteArray.size]

theorem bs_ne (c : UInt8) (q : List UInt8) : (bs (c :: q)).toList.isEmpty = false ∧ ¬ (bs (c :: q)).toList = [] := by
  rw [Lib.toList_data]; simp
theorem bs_nil : (bs []).toList.isEmpty = true ∧ (bs []).toList = [] := by
  rw [Lib.toList_data]; simp

set_option maxHeartbeats 2000000 in
theorem sign_yes (rb : Nat) (c : UInt8) (q : List UInt8) (w : World) (h : Rat rb (c :: q) w) (hl : q.length < 4611686018427387904) :
    Calls Tryd.prog 116 #[.pointer (some ⟨rb, 0, none⟩), .int .u8 c.toNat] w fun e w' => e = .returned (.bool true) ∧ Rk rb q w w' := by
  have c0 := h.c
  have f0 := h.f
  have z0 := h.lt
  have hR := Lib.hid (Rk.set h q rfl)
  have ht := bs_tail c q
  obtain ⟨hne, hne2⟩ := bs_ne c q
  have hs : (bs (c :: q)).size = q.length + 1 := rfl
  have hg : ∀ h, (bs (c :: q))[0]'h = c := fun _ => rfl
  clear h
  generalize bs (c :: q) = s at *
  generalize bs q = t at *
  rw [hs] at ht
  go_enter Tryd.func116, Tryd.ntmps116
  go_wp2
  go_ret
  exact ⟨rfl, hR.out⟩
set_option maxHeartbeats 2000000 in
theorem sign_other (rb : Nat) (c x : UInt8) (q : List UInt8) (w : World) (h : Rat rb (x :: q) w) (hx : x ≠ c) (hl : q.length < 4611686018427387904) :
    Calls Tryd.prog 116 #[.pointer (some ⟨rb, 0, none⟩), .int .u8 c.toNat] w fun e w' => e = .returned (.bool false) ∧ Rk rb (x :: q) w w' := by
  have c0 := h.c
  have f0 := h.f
  have z0 := h.lt
  have hR := Lib.hid (Rk.refl h)
  obtain ⟨hne, hne2⟩ := bs_ne x q
  have hs : (bs (x :: q)).size = q.length + 1 := rfl
  have hg : ∀ h, (bs (x :: q))[0]'h = x := fun _ => rfl
  have hc : ((x.toNat : Int) != (c.toNat : Int)) = true := by
    rw [bne_iff_ne]; intro e; exact hx (UInt8.toNat_inj.1 (by omega))
  have hc2 : ((x.toNat : Int) == (c.toNat : Int)) = false := by
    rw [beq_eq_false_iff_ne]; intro e; exact hx (UInt8.toNat_inj.1 (by omega))
  clear h hx
  generalize bs (x :: q) = s at *
  go_enter Tryd.func116, Tryd.ntmps116
  go_wp2
  go_ret
  exact ⟨rfl, hR.out⟩
theorem sign_nil (rb : Nat) (c : UInt8) (w : World) (h : Rat rb [] w) :
    Calls Tryd.prog 116 #[.pointer (some ⟨rb, 0, none⟩), .int .u8 c.toNat] w fun e w' => e = .returned (.bool false) ∧ Rk rb [] w w' := by
  have c0 := h.c
  have f0 := h.f
  have z0 := h.lt
  have hR := Lib.hid (Rk.refl h)
  obtain ⟨hne, hne2⟩ := bs_nil
  clear h
  generalize bs [] = s at *
  go_enter Tryd.func116, Tryd.ntmps116
  go_wp2
  go_ret
  exact ⟨rfl, hR.out⟩

theorem one_esc (d : UInt8) (q : List UInt8) : one (92 :: d :: q) = (mt d).map fun x => (x, q) := by simp [one]
theorem one_oth (c : UInt8) (r : List UInt8) (h : c ≠ 92) : one (c :: r) = if sp c then none else some (c, r) := by simp [one, h]
def retB (x : UInt8) (b : Bool) : Ending := .returned (.tuple #[.int .u8 x.toNat, .bool b])
/-- What reading a byte answers. -/
def OneP (rb : Nat) (o : Option (UInt8 × List UInt8)) (w : World) (e : Ending) (w' : World) : Prop :=
  match o with
  | some (x, q) => e = retB x true ∧ Rk rb q w w'
  | none => ∃ x q, e = retB x false ∧ Rk rb q w w'
set_option maxHeartbeats 4000000 in
theorem written_any (rb : Nat) (l : List UInt8) (w : World) (h : Rat rb l w) (hl : l.length < 4611686018427387904) :
    Calls Tryd.prog 119 #[.pointer (some ⟨rb, 0, none⟩)] w (OneP rb (one l) w) := by
  cases l with
  | nil =>
    have hsn := Lib.hid (sign_nil rb 92 w h)
    go_enter Tryd.func119, Tryd.ntmps119
    go_wp2_with fail
    refine hsn.out.mono ?_
    rintro _ w1 ⟨rfl, hk⟩
    have c0 := Rat.c (l := []) hk.2
    have HK := Lib.hid hk
    obtain ⟨hne, hne2⟩ := bs_nil
    clear hk
    generalize hbs : bs [] = s at c0 hne hne2
    clear hbs
    go_wp2
    go_ret2
    exact ⟨0, [], rfl, HK.out⟩
  | cons c r =>
    by_cases hc : c = 92
    · subst hc
      have hsn := Lib.hid (sign_yes rb 92 r w h (by simp at hl; omega))
      cases r with
      | nil =>
        go_enter Tryd.func119, Tryd.ntmps119
        go_wp2_with fail
        refine hsn.out.mono ?_
        rintro _ w1 ⟨rfl, hk⟩
        have c0 := Rat.c (l := []) hk.2
        have HK := Lib.hid hk
        obtain ⟨hne, hne2⟩ := bs_nil
        clear hk
        generalize hbs : bs [] = s at c0 hne hne2
        clear hbs
        go_wp2
        go_ret2
        exact ⟨0, [], rfl, HK.out⟩
      | cons d q =>
        have hm := Lib.hid (meant_any d)
        go_enter Tryd.func119, Tryd.ntmps119
        go_wp2_with fail
        refine hsn.out.mono ?_
        rintro _ w1 ⟨rfl, hk⟩
        have c0 := Rat.c (l := d :: q) hk.2
        have f0 := Rat.f (l := d :: q) hk.2
        have z0 := Rat.lt (l := d :: q) hk.2
        have HK := Lib.hid hk
        have HR := Lib.hid (hk.trans (Rk.set hk.2 q rfl))
        clear hk
        have ht := bs_tail d q
        obtain ⟨hne, hne2⟩ := bs_ne d q
        have hs : (bs (d :: q)).size = q.length + 1 := rfl
        have hg : ∀ h, (bs (d :: q))[0]'h = d := fun _ => rfl
        have hql : q.length < 4611686018427387904 := by simp at hl; omega
        generalize bs (d :: q) = s at c0 ht hne hne2 hs hg
        generalize bs q = t at *
        rw [hs] at ht
        go_wp2_with fail
        refine (hm.out _).mono ?_
        rintro _ _ ⟨rfl, rfl⟩
        go_wp2
        go_ret2
        have hmt := mt_is d
        rw [one_esc, hmt]
        clear hmt
        cases hb : mtB d
        · exact ⟨mtV d, q, rfl, HR.out⟩
        · exact ⟨rfl, HR.out⟩
    · have hsn := Lib.hid (sign_other rb 92 c r w h hc (by simp at hl; omega))
      have his := Lib.hid (isSign_any c)
      go_enter Tryd.func119, Tryd.ntmps119
      go_wp2_with fail
      refine hsn.out.mono ?_
      rintro _ w1 ⟨rfl, hk⟩
      have c0 := Rat.c (l := c :: r) hk.2
      have f0 := Rat.f (l := c :: r) hk.2
      have z0 := Rat.lt (l := c :: r) hk.2
      have HR := Lib.hid (hk.trans (Rk.set hk.2 r rfl))
      clear hk
      have ht := bs_tail c r
      obtain ⟨hne, hne2⟩ := bs_ne c r
      have hs : (bs (c :: r)).size = r.length + 1 := rfl
      have hg : ∀ h, (bs (c :: r))[0]'h = c := fun _ => rfl
      have hql : r.length < 4611686018427387904 := by simp at hl; omega
      generalize bs (c :: r) = s at c0 ht hne hne2 hs hg
      generalize bs r = t at *
      rw [hs] at ht
      have HC := Lib.hid hc
      clear hc
      go_wp2_with fail
      refine (his.out _).mono ?_
      rintro _ _ ⟨rfl, rfl⟩
      go_wp2
      go_ret2
      rw [one_oth c r HC.out]
      cases hb : sp c
      · exact ⟨rfl, HR.out⟩
      · exact ⟨c, r, rfl, HR.out⟩

def retI (x y : UInt8) (b : Bool) : Ending := .returned (.tuple #[.int .u8 x.toNat, .int .u8 y.toNat, .bool b])
/-- What reading an item answers. -/
def ItmP (rb : Nat) (o : Option (UInt8 × UInt8 × List UInt8)) (w : World) (e : Ending) (w' : World) : Prop :=
  match o with
  | some (x, y, q) => e = retI x y true ∧ Rk rb q w w'
  | none => ∃ x y q, e = retI x y false ∧ Rk rb q w w'
theorem one_le (l : List UInt8) (c : UInt8) (r : List UInt8) (h : one l = some (c, r)) : r.length ≤ l.length := by
  obtain ⟨n, hn, hl, hr⟩ := one_len l c r h
  rw [hr]; simp
set_option maxHeartbeats 4000000 in
theorem item_any (rb : Nat) (l : List UInt8) (w : World) (h : Rat rb l w) (hl : l.length < 4611686018427387904) :
    Calls Tryd.prog 117 #[.pointer (some ⟨rb, 0, none⟩)] w (ItmP rb (itm l) w) := by
  have hw := Lib.hid (written_any rb l w h hl)
  cases ho : one l with
  | none =>
    have hi : itm l = none := by unfold itm; rw [ho]
    rw [hi]
    rw [ho] at hw
    unfold OneP at hw
    clear ho hi
    go_enter Tryd.func117, Tryd.ntmps117
    go_wp2_with fail
    refine hw.out.mono ?_
    rintro _ w1 ⟨x, q, rfl, hk⟩
    have HK := Lib.hid hk
    clear hk
    unfold retB
    go_wp2
    go_ret3
    exact ⟨x, x, q, rfl, HK.out⟩
  | some p =>
    obtain ⟨a, r⟩ := p
    have hrl := one_le l a r ho
    rw [ho] at hw
    unfold OneP at hw
    cases r with
    | nil =>
      have hi : itm l = some (a, a, []) := by unfold itm; rw [ho]
      rw [hi]
      clear ho hi
      go_enter Tryd.func117, Tryd.ntmps117
      go_wp2_with fail
      refine hw.out.mono ?_
      rintro _ w1 ⟨rfl, hk⟩
      have HK := Lib.hid hk
      clear hk
      unfold retB
      go_wp2_with fail
      refine (sign_nil rb 45 _ HK.out.2).mono ?_
      rintro _ w2 ⟨rfl, hk⟩
      have HK2 := Lib.hid (HK.out.trans hk)
      clear hk
      go_wp2
      go_ret3
      exact ⟨rfl, HK2.out⟩
    | cons d q =>
      simp only [List.length_cons] at hrl
      by_cases hd : d = 45
      · subst hd
        cases ho2 : one q with
        | none =>
          have hi : itm l = none := by unfold itm; rw [ho]; simp [ho2]
          rw [hi]
          clear ho hi
          go_enter Tryd.func117, Tryd.ntmps117
          go_wp2_with fail
          refine hw.out.mono ?_
          rintro _ w1 ⟨rfl, hk⟩
          have HK := Lib.hid hk
          clear hk
          unfold retB
          go_wp2_with fail
          refine (sign_yes rb 45 q _ HK.out.2 (by omega)).mono ?_
          rintro _ w2 ⟨rfl, hk⟩
          have HK2 := Lib.hid (HK.out.trans hk)
          have hw2 := Lib.hid (written_any rb q w2 hk.2 (by omega))
          rw [ho2] at hw2
          unfold OneP at hw2
          clear hk ho2
          go_wp2_with fail
          refine hw2.out.mono ?_
          rintro _ w3 ⟨x, t, rfl, hk⟩
          have HK3 := Lib.hid (HK2.out.trans hk)
          clear hk
          unfold retB
          go_wp2
          go_ret3
          exact ⟨a, x, t, rfl, HK3.out⟩
        | some p2 =>
          obtain ⟨b, t⟩ := p2
          have key : ∀ v : Bool, decide (a.toNat ≤ b.toNat) = v → Calls Tryd.prog 117 #[.pointer (some ⟨rb, 0, none⟩)] w fun e w' => e = retI a b v ∧ Rk rb t w w' := by
            intro v hv
            clear ho
            go_enter Tryd.func117, Tryd.ntmps117
            go_wp2_with fail
            refine hw.out.mono ?_
            rintro _ w1 ⟨rfl, hk⟩
            have HK := Lib.hid hk
            clear hk
            unfold retB
            go_wp2_with fail
            refine (sign_yes rb 45 q _ HK.out.2 (by omega)).mono ?_
            rintro _ w2 ⟨rfl, hk⟩
            have HK2 := Lib.hid (HK.out.trans hk)
            have hw2 := Lib.hid (written_any rb q w2 hk.2 (by omega))
            rw [ho2] at hw2
            unfold OneP at hw2
            clear hk ho2
            go_wp2_with fail
            refine hw2.out.mono ?_
            rintro _ w3 ⟨rfl, hk⟩
            have HK3 := Lib.hid (HK2.out.trans hk)
            clear hk
            unfold retB
            go_wp2
            go_ret3
            exact ⟨by first | rfl | (subst hv; rfl), HK3.out⟩
          by_cases hab : a ≤ b
          · have hi : itm l = some (a, b, t) := by unfold itm; rw [ho]; simp [ho2, hab]
            rw [hi]
            exact key true (by rw [UInt8.le_iff_toNat_le] at hab; simpa using hab)
          · have hi : itm l = none := by unfold itm; rw [ho]; simp [ho2, hab]
            rw [hi]
            refine (key false (by rw [UInt8.le_iff_toNat_le] at hab; simpa using hab)).mono fun e w' he => ⟨a, b, t, he⟩
      · have hi : itm l = some (a, a, d :: q) := by unfold itm; rw [ho]; simp [hd]
        rw [hi]
        clear ho hi
        go_enter Tryd.func117, Tryd.ntmps117
        go_wp2_with fail
        refine hw.out.mono ?_
        rintro _ w1 ⟨rfl, hk⟩
        have HK := Lib.hid hk
        clear hk
        unfold retB
        go_wp2_with fail
        refine (sign_other rb 45 d q _ HK.out.2 hd (by omega)).mono ?_
        rintro _ w2 ⟨rfl, hk⟩
        have HK2 := Lib.hid (HK.out.trans hk)
        clear hk
        go_wp2
        go_ret3
        exact ⟨rfl, HK2.out⟩
end Go.Proofs.YtmjojahkbjlcdaaDoor
