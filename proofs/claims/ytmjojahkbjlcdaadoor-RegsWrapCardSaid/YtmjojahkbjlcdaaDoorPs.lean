/- Parse: what a text says. -/
import Derived.Test.YtmjojahkbjlcdaaDoorProg
import Derived.Test.YtmjojahkbjlcdaaDoorRd
import Derived.WalkKit
import Derived.WalkLawsBesides
import Derived.WalkSpells
import Derived.Outline
import Derived.Lib.Walk
import Derived.Lib.Hide
import Derived.RegionTactic
import Derived.LoopTactic
import Derived.Below
import Derived.IntWalk
import Derived.Deep.LoopGhost
import Derived.RegionCalls
import Derived.Deep.RegionWith
import Derived.Laws.ResultCell
import Derived.Lib.Slices
namespace Go.Proofs.YtmjojahkbjlcdaaDoor
set_option linter.unusedSimpArgs false
set_option linter.unusedVariables false
set_option maxRecDepth 100000
open Go.RowKit

def PE : Option (Nat → Bool) → Ending
  | some f => .returned (.tuple #[setV f, .int .i64 0])
  | none => .returned (.tuple #[.agg #[.int .u64 0, .int .u64 0, .int .u64 0, .int .u64 0], .int .i64 50])
def fin (v : Bool) : Option ((Nat → Bool) × List UInt8) → Option (Nat → Bool)
  | some (f, []) => some (if v then noF f else f)
  | _ => none
theorem wc_none : wc (fun _ => false) = #[.int .u64 0, .int .u64 0, .int .u64 0, .int .u64 0] := by unfold wc; simp only [W_none]; rfl
abbrev z24 : Array Value := #[.int .u64 0, .int .u64 0, .int .u64 0, .int .u64 0]
/-- The reader, the set so far, the answer's block. -/
abbrev PL (w : World) (sb : Nat) (q : List UInt8) (f : Nat → Bool) : List (Nat × Obj) := [(w.heap.size + 1, .cells #[.string (bs q)] 132), (sb, .cells (wc f) 24), (w.heap.size, .cells z24 24)]
theorem Sb.swap {w0 w : World} {a b : Nat × Obj} {L : List (Nat × Obj)} (h : Sb w0 w (a :: b :: L)) : Sb w0 w (b :: a :: L) := h.sub fun c hc => by
  rcases List.mem_cons.1 hc with rfl | hc
  · simp
  · rcases List.mem_cons.1 hc with rfl | hc
    · simp
    · simp [hc]
theorem Sb.rot {w0 w : World} {a b c : Nat × Obj} (h : Sb w0 w [a, b, c]) : Sb w0 w [c, a, b] := h.sub fun x hx => by
  simp only [List.mem_cons, List.not_mem_nil, or_false] at hx ⊢
  rcases hx with h | h | h
  · exact .inr (.inr h)
  · exact .inl h
  · exact .inr (.inl h)
theorem Sb.set4 {w0 w : World} {b : Nat} {cs : Array Value} {L : List (Nat × Obj)} (h : Sb w0 w ((b, .cells cs 24) :: L)) (hs : cs.size = 4) (x0 x1 x2 x3 : Value) (hne : ∀ c ∈ L, c.1 ≠ b) :
    Sb w0 ((((w.setCell ⟨b, 0, none⟩ x0).setCell ⟨b, 1, none⟩ x1).setCell ⟨b, 2, none⟩ x2).setCell ⟨b, 3, none⟩ x3) ((b, .cells #[x0, x1, x2, x3] 24) :: L) := by
  have k := (((h.set (i := 0) x0 hne).set (i := 1) x1 hne).set (i := 2) x2 hne).set (i := 3) x3 hne
  have e : (((cs.setIfInBounds 0 x0).setIfInBounds 1 x1).setIfInBounds 2 x2).setIfInBounds 3 x3 = #[x0, x1, x2, x3] := by
    apply Array.ext_getElem?
    intro j
    by_cases hj : j < 4
    · rcases (by omega : j = 0 ∨ j = 1 ∨ j = 2 ∨ j = 3) with rfl | rfl | rfl | rfl <;> simp [Array.getElem?_setIfInBounds, hs]
    · rw [Array.getElem?_eq_none (by simp [hs]; omega), Array.getElem?_eq_none (by simp; omega)]
  rwa [e] at k
theorem wc_size (f : Nat → Bool) : (wc f).size = 4 := rfl
theorem res_set {fn : Func} {p u : Tmp} (h : fn.results = #[.cell p 24, .tmp u]) (tmps : Array Value) (w : World) (g : Nat) (cs : Array Value) (x : Value) (hp : tmps.getD p undef = .pointer (some ⟨g, 0, none⟩)) (hg : w.heap[g]? = some (.cells cs 24 (0, 0)))
    (hi : cs.size = 4) (hx : tmps.getD u undef = x) : (results fn tmps).run Tryd.prog w = .ok (.tuple #[.agg cs, x]) w := by
  rw [results_cell_tmp h, hp, hx]
  have hl := run_loadVar_row (P := Tryd.prog) w g 24 24 cs (0, 0) _ hg Tryd.underlying24 rfl (by rw [hi]; kernel_rfl)
  simp [asAddr, Result.andThen, hl]
theorem fin_none (v : Bool) : fin v none = none := rfl
set_option maxHeartbeats 8000000 in
set_option maxRecDepth 100000 in
theorem parse_body (r q0 : List UInt8) (v : Bool) (hl : r.length ≤ 140737488355328) (hq : q0.length ≤ r.length)
    (h2 : ∀ rb w, Rat rb r w → Calls Tryd.prog 116 #[.pointer (some ⟨rb, 0, none⟩), .int .u8 94] w fun e w' => e = .returned (.bool v) ∧ Rk rb q0 w w') (w : World) :
    Calls Tryd.prog 113 #[.string (bs (91 :: r))] w fun e w' => e = PE (fin v (bd q0 fun _ => false)) ∧ Below w.heap.size w w' := by
  have S0 := Lib.hid (((Sb.start w).alloc (.cells #[.int .u64 0, .int .u64 0, .int .u64 0, .int .u64 0] 24)).alloc (.cells #[.string (bs (91 :: r))] 132))
  have H2 := Lib.hid h2
  clear h2
  obtain ⟨R, hR⟩ : ∃ R, bd q0 (fun _ => false) = R := ⟨_, rfl⟩
  rw [hR]
  have hR' := Lib.hid hR
  clear hR
  generalize hbs : bs (91 :: r) = s0 at S0 ⊢
  have hbs' := Lib.hid hbs
  clear hbs
  go_enter Tryd.func113, Tryd.ntmps113
  go_wp2_with fail
  have hs0 := Lib.hid (show Sb w ((w.alloc (.cells #[.int .u64 0, .int .u64 0, .int .u64 0, .int .u64 0] 24)).alloc (.cells #[.string s0] 132)) [(w.heap.size + 1, .cells #[.string (bs (91 :: r))] 132), (w.heap.size, .cells #[.int .u64 0, .int .u64 0, .int .u64 0, .int .u64 0] 24)] by simpa [hbs'.out] using S0.out)
  refine (sign_yes (w.heap.size + 1) 91 r _ hs0.out.heap (by omega)).mono ?_
  rintro _ w1 ⟨rfl, hk⟩
  have HS1 := Lib.hid (hk.sb hs0.out (by simp))
  clear hk S0
  go_wp2_with fail
  refine (H2.out (w.heap.size + 1) _ HS1.out.heap).mono ?_
  rintro _ w2 ⟨rfl, hk⟩
  have HS2 := Lib.hid (hk.sb HS1.out (by simp))
  clear hk HS1 hs0
  have hz : w.heap.size + 1 < w2.heap.size := HS2.out.lt
  have HS3 := Lib.hid (show Sb w (w2.alloc (.cells z24 24)) (PL w w2.heap.size q0 fun _ => false) by rw [PL, wc_none]; exact (HS2.out.alloc (.cells z24 24)).swap)
  clear HS2
  go_wp2_with fail
  generalize w2.heap.size = sb at *
  go_loopg [7] (q0.length + 1) (fun g x wr => ∃ q f, q.length < g ∧ q.length ≤ 140737488355328 ∧ bd q f = R ∧ Sb w wr (PL w sb q f))
  case atStart => exact ⟨q0, _, by omega, by omega, hR'.out, HS3.out⟩
  case round =>
    obtain ⟨q, f, hg, hql, hbd, hS⟩ := hrel
    obtain ⟨gj, rfl⟩ : ∃ gj, gk = gj + 1 := ⟨gk - 1, by omega⟩
    have HS := Lib.hid hS
    clear hS HS3 H2 hR' hbs'
    have hne1 : ∀ c ∈ [(sb, Obj.cells (wc f) 24), (w.heap.size, Obj.cells z24 24)], c.1 ≠ w.heap.size + 1 := by simp; omega
    have HN1 := Lib.hid hne1
    clear hne1
    cases q with
    | nil =>
      have hR : R = none := by rw [← hbd]; exact bd_nil f
      subst hR
      clear hbd
      go_wp2_with fail
      refine (sign_nil (w.heap.size + 1) 93 _ HS.out.heap).mono ?_
      rintro _ w3 ⟨rfl, hk⟩
      have HS4 := Lib.hid (hk.sb HS.out HN1.out)
      clear hk HS
      go_wp2_with fail
      refine (item_any (w.heap.size + 1) [] _ HS4.out.heap (by simp)).mono ?_
      rintro _ w4 ⟨x, y, q', rfl, hk⟩
      have HS5 := Lib.hid (hk.sb HS4.out HN1.out)
      clear hk HS4
      unfold retI
      have d0 := HS5.out.tl.tl.cell 0; have d1 := HS5.out.tl.tl.cell 1; have d2 := HS5.out.tl.tl.cell 2; have d3 := HS5.out.tl.tl.cell 3
      have g0 := HS5.out.tl.tl.free 0; have g1 := HS5.out.tl.tl.free 1; have g2 := HS5.out.tl.tl.free 2; have g3 := HS5.out.tl.tl.free 3
      simp at d0 d1 d2 d3
      have z9 := HS5.out.tl.tl.lt
      have HE := Lib.hid (Sb.set4 HS5.out.rot rfl (.int .u64 0) (.int .u64 0) (.int .u64 0) (.int .u64 0) (by simp; omega))
      go_wp2
      (try simp only [Exit.inBlock, Exit.then])
      refine bodyPost_ret (v := .tuple #[.agg z24, .int .i64 50]) (res_set rfl _ _ w.heap.size z24 _ rfl HE.out.heap rfl rfl) rfl ⟨rfl, HE.out.1⟩
    | cons c t =>
      have htl : t.length < 140737488355328 := by simp at hql; omega
      by_cases hc : c = 93
      · subst hc
        have hR : R = some (f, t) := by rw [← hbd]; exact bd_end t f
        subst hR
        clear hbd
        go_wp2_with fail
        refine (sign_yes (w.heap.size + 1) 93 t _ HS.out.heap (by omega)).mono ?_
        rintro _ w3 ⟨rfl, hk⟩
        have HS5 := Lib.hid (hk.sb HS.out HN1.out)
        clear hk HS
        have c0 := Rat.c (l := t) HS5.out.heap
        cases t with
        | nil =>
          obtain ⟨hne, hne2⟩ := bs_nil
          generalize hbs : bs [] = s at c0 hne hne2
          clear hbs
          cases v
          · have HT := Lib.hid HS5.out.tl
            have e0 := HT.out.word 0 (by omega); have e1 := HT.out.word 1 (by omega); have e2 := HT.out.word 2 (by omega); have e3 := HT.out.word 3 (by omega)
            have d0 := HS5.out.tl.tl.cell 0; have d1 := HS5.out.tl.tl.cell 1; have d2 := HS5.out.tl.tl.cell 2; have d3 := HS5.out.tl.tl.cell 3
            have g0 := HS5.out.tl.tl.free 0; have g1 := HS5.out.tl.tl.free 1; have g2 := HS5.out.tl.tl.free 2; have g3 := HS5.out.tl.tl.free 3
            simp at d0 d1 d2 d3
            have z9 := HS5.out.tl.tl.lt
            have HE := Lib.hid (Sb.set4 HS5.out.rot rfl (.int .u64 (W f 0)) (.int .u64 (W f 1)) (.int .u64 (W f 2)) (.int .u64 (W f 3)) (by simp; omega))
            go_wp2
            (try simp only [Exit.inBlock, Exit.then])
            refine bodyPost_ret (v := .tuple #[setV f, .int .i64 0]) (res_set rfl _ _ w.heap.size (wc f) _ rfl HE.out.heap rfl rfl) rfl ⟨rfl, HE.out.1⟩
          · have HT := Lib.hid HS5.out.tl
            have e0 := HT.out.word 0 (by omega); have e1 := HT.out.word 1 (by omega); have e2 := HT.out.word 2 (by omega); have e3 := HT.out.word 3 (by omega)
            go_wp2_with fail
            refine (not_any f _).mono ?_
            rintro _ w4 ⟨rfl, hb⟩
            have HS6 := Lib.hid (HS5.out.up hb)
            clear e0 e1 e2 e3 HT hb HS5 c0
            rw [show (fun b => !f b) = noF f from rfl]
            have HT := Lib.hid HS6.out.tl
            have e0 := HT.out.word 0 (by omega); have e1 := HT.out.word 1 (by omega); have e2 := HT.out.word 2 (by omega); have e3 := HT.out.word 3 (by omega)
            have p0 := HT.out.free 0; have p1 := HT.out.free 1; have p2 := HT.out.free 2; have p3 := HT.out.free 3
            have z8 := HT.out.lt
            have d0 := HS6.out.tl.tl.cell 0; have d1 := HS6.out.tl.tl.cell 1; have d2 := HS6.out.tl.tl.cell 2; have d3 := HS6.out.tl.tl.cell 3
            have g0 := HS6.out.tl.tl.free 0; have g1 := HS6.out.tl.tl.free 1; have g2 := HS6.out.tl.tl.free 2; have g3 := HS6.out.tl.tl.free 3
            simp at d0 d1 d2 d3
            have z9 := HS6.out.tl.tl.lt
            have hns : w.heap.size ≠ sb := by omega
            have HE1 := Lib.hid (Sb.set4 HT.out (wc_size f) (.int .u64 (W (noF f) 0)) (.int .u64 (W (noF f) 1)) (.int .u64 (W (noF f) 2)) (.int .u64 (W (noF f) 3)) (by simp; omega))
            have HE := Lib.hid (Sb.set4 HE1.out.swap rfl (.int .u64 (W (noF f) 0)) (.int .u64 (W (noF f) 1)) (.int .u64 (W (noF f) 2)) (.int .u64 (W (noF f) 3)) (by simp; omega))
            go_wp2
            (try simp only [Exit.inBlock, Exit.then])
            refine bodyPost_ret (v := .tuple #[setV (noF f), .int .i64 0]) (res_set rfl _ _ w.heap.size (wc (noF f)) _ rfl HE.out.heap rfl rfl) rfl ⟨rfl, HE.out.1⟩
        | cons x t' =>
          obtain ⟨hne, hne2⟩ := bs_ne x t'
          generalize hbs : bs (x :: t') = s at c0 hne hne2
          clear hbs
          have d0 := HS5.out.tl.tl.cell 0; have d1 := HS5.out.tl.tl.cell 1; have d2 := HS5.out.tl.tl.cell 2; have d3 := HS5.out.tl.tl.cell 3
          have g0 := HS5.out.tl.tl.free 0; have g1 := HS5.out.tl.tl.free 1; have g2 := HS5.out.tl.tl.free 2; have g3 := HS5.out.tl.tl.free 3
          simp at d0 d1 d2 d3
          have z9 := HS5.out.tl.tl.lt
          have HE := Lib.hid (Sb.set4 HS5.out.rot rfl (.int .u64 0) (.int .u64 0) (.int .u64 0) (.int .u64 0) (by simp; omega))
          go_wp2
          (try simp only [Exit.inBlock, Exit.then])
          refine bodyPost_ret (v := .tuple #[.agg z24, .int .i64 50]) (res_set rfl _ _ w.heap.size z24 _ rfl HE.out.heap rfl rfl) rfl ⟨rfl, HE.out.1⟩
      · go_wp2_with fail
        refine (sign_other (w.heap.size + 1) 93 c t _ HS.out.heap hc (by omega)).mono ?_
        rintro _ w3 ⟨rfl, hk⟩
        have HS4 := Lib.hid (hk.sb HS.out HN1.out)
        clear hk HS
        have hit := Lib.hid (item_any (w.heap.size + 1) (c :: t) _ HS4.out.heap (by simp; omega))
        cases hi : itm (c :: t) with
        | none =>
          have hR : R = none := by rw [← hbd]; exact bd_bad c t f hc hi
          subst hR
          rw [hi] at hit
          clear hbd hi
          go_wp2_with fail
          refine hit.out.mono ?_
          rintro _ w4 ⟨x, y, q', rfl, hk⟩
          have HS5 := Lib.hid (hk.sb HS4.out HN1.out)
          clear hk HS4 hit
          unfold retI
          have d0 := HS5.out.tl.tl.cell 0; have d1 := HS5.out.tl.tl.cell 1; have d2 := HS5.out.tl.tl.cell 2; have d3 := HS5.out.tl.tl.cell 3
          have g0 := HS5.out.tl.tl.free 0; have g1 := HS5.out.tl.tl.free 1; have g2 := HS5.out.tl.tl.free 2; have g3 := HS5.out.tl.tl.free 3
          simp at d0 d1 d2 d3
          have z9 := HS5.out.tl.tl.lt
          have HE := Lib.hid (Sb.set4 HS5.out.rot rfl (.int .u64 0) (.int .u64 0) (.int .u64 0) (.int .u64 0) (by simp; omega))
          go_wp2
          (try simp only [Exit.inBlock, Exit.then])
          refine bodyPost_ret (v := .tuple #[.agg z24, .int .i64 50]) (res_set rfl _ _ w.heap.size z24 _ rfl HE.out.heap rfl rfl) rfl ⟨rfl, HE.out.1⟩
        | some p =>
          obtain ⟨a, b, q'⟩ := p
          rw [hi] at hit
          have hR : bd q' (orF f (body.rangeG a b)) = R := by rw [← hbd]; exact (bd_item c t f hc a b q' hi).symm
          have hlen := itm_len _ _ _ _ hi
          have HR2 := Lib.hid hR
          clear hbd hi hR
          go_wp2_with fail
          refine hit.out.mono ?_
          rintro _ w4 ⟨rfl, hk⟩
          have HS5 := Lib.hid (hk.sb HS4.out HN1.out)
          clear hk HS4 hit
          unfold retI
          have ha := a.toNat_lt
          have hb' := b.toNat_lt
          have HT := Lib.hid HS5.out.tl
          have e0 := HT.out.word 0 (by omega); have e1 := HT.out.word 1 (by omega); have e2 := HT.out.word 2 (by omega); have e3 := HT.out.word 3 (by omega)
          have hrg := Lib.hid (range_any a.toNat b.toNat (by omega) (by omega))
          have hun := Lib.hid (union_any f (body.rangeG a b))
          have hg1 : (fun b_1 => f b_1 || body.rangeG a b b_1) = orF f (body.rangeG a b) := rfl
          rw [hg1] at hun
          have hg2 : rangeF a.toNat (b.toNat + 1 - a.toNat) = body.rangeG a b := rfl
          rw [hg2] at hrg
          clear hg1 hg2
          generalize body.rangeG a b = g at *
          generalize orF f g = f' at *
          go_wp2_with fail
          go_region_with (first
            | (go_at_call 108; refine (hrg.out _).mono ?_; rintro _ w5 ⟨rfl, hb⟩; have HS6 := Lib.hid (HS5.out.drew.up hb); have k0 := HS6.out.tl.word 0 (by omega); have k1 := HS6.out.tl.word 1 (by omega); have k2 := HS6.out.tl.word 2 (by omega); have k3 := HS6.out.tl.word 3 (by omega); clear hb)
            | (go_at_call 118; refine (hun.out _).mono ?_; rintro _ w6 ⟨rfl, hb⟩; have HS7 := Lib.hid (Sb.up (by first | exact HS6.out | exact HS6.out.drew) hb); have m0 := HS7.out.tl.word 0 (by omega); have m1 := HS7.out.tl.word 1 (by omega); have m2 := HS7.out.tl.word 2 (by omega); have m3 := HS7.out.tl.word 3 (by omega); have q0 := HS7.out.tl.free 0; have q1 := HS7.out.tl.free 1; have q2 := HS7.out.tl.free 2; have q3 := HS7.out.tl.free 3; clear hb))
          all_goals
            (have HE := Lib.hid (Sb.set4 HS7.out.swap (wc_size f) (.int .u64 (W f' 0)) (.int .u64 (W f' 1)) (.int .u64 (W f' 2)) (.int .u64 (W f' 3)) (by simp; omega))
             go_wp2
             go_roundg gj
             case rel => exact ⟨q', f', by omega, by omega, HR2.out, HE.out.swap⟩
             case measure => omega)

set_option maxHeartbeats 4000000 in
set_option maxRecDepth 100000 in
theorem parse_no (l : List UInt8) (hl : l.length ≤ 140737488355328) (hno : ∀ r, l ≠ 91 :: r) (w : World) :
    Calls Tryd.prog 113 #[.string (bs l)] w fun e w' => e = PE none ∧ Below w.heap.size w w' := by
  have S0 := Lib.hid (((Sb.start w).alloc (.cells z24 24)).alloc (.cells #[.string (bs l)] 132))
  have hsg : ∀ rb w, Rat rb l w → Calls Tryd.prog 116 #[.pointer (some ⟨rb, 0, none⟩), .int .u8 91] w fun e w' => e = .returned (.bool false) ∧ Rk rb l w w' := by
    intro rb w h
    cases l with
    | nil => exact sign_nil rb 91 w h
    | cons c r => exact sign_other rb 91 c r w h (fun e => hno r (by rw [e])) (by simp at hl; omega)
  have HG := Lib.hid hsg
  clear hsg hno
  generalize hbs : bs l = s0 at S0 ⊢
  have hbs' := Lib.hid hbs
  clear hbs
  go_enter Tryd.func113, Tryd.ntmps113
  go_wp2_with fail
  have hs0 := Lib.hid (show Sb w ((w.alloc (.cells z24 24)).alloc (.cells #[.string s0] 132)) [(w.heap.size + 1, .cells #[.string (bs l)] 132), (w.heap.size, .cells z24 24)] by simpa [hbs'.out] using S0.out)
  refine (HG.out (w.heap.size + 1) _ hs0.out.heap).mono ?_
  rintro _ w1 ⟨rfl, hk⟩
  have HS1 := Lib.hid (hk.sb hs0.out (by simp))
  clear hk S0 hs0
  have d0 := HS1.out.tl.cell 0; have d1 := HS1.out.tl.cell 1; have d2 := HS1.out.tl.cell 2; have d3 := HS1.out.tl.cell 3
  have g0 := HS1.out.tl.free 0; have g1 := HS1.out.tl.free 1; have g2 := HS1.out.tl.free 2; have g3 := HS1.out.tl.free 3
  simp at d0 d1 d2 d3
  have z9 := HS1.out.tl.lt
  have HE := Lib.hid (Sb.set4 HS1.out.swap rfl (.int .u64 0) (.int .u64 0) (.int .u64 0) (.int .u64 0) (by simp))
  go_wp2
  refine bodyPost_ret (v := .tuple #[.agg z24, .int .i64 50]) (res_set rfl _ _ w.heap.size z24 _ rfl HE.out.heap rfl rfl) rfl ⟨rfl, HE.out.1⟩

theorem bs_list (s : ByteArray) : s = bs s.data.toList := by cases s; rfl
theorem ps_of (r : List UInt8) (v : Bool) (q : List UInt8) (h : cls (91 :: r) = (bd q fun _ => false).map fun x => (if v then noF x.1 else x.1, x.2)) : ps (91 :: r) = fin v (bd q fun _ => false) := by
  unfold ps
  rw [h]
  cases hb : bd q (fun _ => false) with
  | none => rfl
  | some p =>
    obtain ⟨f, t⟩ := p
    cases t <;> rfl
theorem parse_l (l : List UInt8) (hl : l.length ≤ 140737488355328) (w : World) :
    Calls Tryd.prog 113 #[.string (bs l)] w fun e w' => e = PE (ps l) ∧ Below w.heap.size w w' := by
  cases l with
  | nil => exact parse_no [] hl (by simp) w
  | cons c r =>
    by_cases hc : c = 91
    · subst hc
      have hrl : r.length ≤ 140737488355328 := by simp at hl; omega
      cases r with
      | nil =>
        rw [ps_of [] false [] rfl]
        exact parse_body [] [] false hrl (Nat.le_refl _) (fun rb w h => sign_nil rb 94 w h) w
      | cons d q =>
        by_cases hd : d = 94
        · subst hd
          rw [ps_of (94 :: q) true q (by simp [cls])]
          exact parse_body (94 :: q) q true hrl (by simp) (fun rb w h => sign_yes rb 94 q w h (by simp at hrl; omega)) w
        · rw [ps_of (d :: q) false (d :: q) (by simp [cls, hd])]
          exact parse_body (d :: q) (d :: q) false hrl (Nat.le_refl _) (fun rb w h => sign_other rb 94 d q w h hd (by simp at hrl; omega)) w
    · have hp : ps (c :: r) = none := by simp [ps, cls, hc]
      rw [hp]
      exact parse_no (c :: r) hl (fun r' e => hc (by simp at e; exact e.1)) w
theorem parse_any (s : ByteArray) (hs : s.size ≤ 140737488355328) (w : World) :
    Calls Tryd.prog 113 #[.string s] w fun e w' => e = PE (ps s.data.toList) ∧ Below w.heap.size w w' := by
  have h := parse_l s.data.toList (by simpa using hs) w
  rwa [← bs_list] at h
end Go.Proofs.YtmjojahkbjlcdaaDoor
