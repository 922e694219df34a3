/- Texts of package regs, one behind the other. -/
import Derived.Test.YtnhfeakndofokaaProg
import Derived.Test.YtnhfeakndofokaaY16
import Derived.Test.YtnhfeakndofokaaY22
import Derived.WalkKit
import Derived.WalkLawsBesides
import Derived.WalkSpells
import Derived.Outline
import Derived.Lib.Walk
import Derived.Lib.Hide
import Derived.Lib.Slices
import Derived.Lib.Strings
import Derived.RegionTactic
import Derived.LoopTactic
import Derived.Below
import Derived.IntWalk
import Derived.Deep.QuietTactic
import Derived.BigQuiet
import Derived.Deep.MidRow
import Derived.Maps.AppendAt
import Derived.Laws.Rows
import Derived.Laws.Tables
import Derived.Deep.WholeRow
import Derived.Deep.Cut
import Derived.Deep.CutRange
import Derived.Lib.SliceRun
import Derived.Laws.MakeOwn
import Derived.Deep.RegionLaw
import Derived.Deep.RegionLawGrows
import Derived.Deep.RegionHeld3
import Derived.RegionCalls
import Derived.Deep.RegionWith
import Derived.Test.YtnhfeakndofokaaY13
import Derived.Test.YtnhfeakndofokaaY21
import Derived.Deep.Light
section
/- Package nfa. -/
namespace Go.Proofs.Ytnhfeakndofokaa
set_option linter.unusedSimpArgs false
set_option linter.unusedVariables false
set_option maxRecDepth 100000
open Go.RowKit
/- NfaChecks: the walk. -/
theorem keep4 {v1 v2 v3 v4 : Value} {b1 b2 : Nat} {w0 w w' : World} (h : w.cell? ⟨b1, 0, none⟩ = some v1 ∧ w.cell? ⟨b1, 1, none⟩ = some v2 ∧ w.cell? ⟨b2, 0, none⟩ = some v3 ∧ w.cell? ⟨b2, 1, none⟩ = some v4 ∧ b1 < w.heap.size ∧ b2 < w.heap.size ∧ Below w0.heap.size w0 w) (hb : Below w.heap.size w w') :
    w'.cell? ⟨b1, 0, none⟩ = some v1 ∧ w'.cell? ⟨b1, 1, none⟩ = some v2 ∧ w'.cell? ⟨b2, 0, none⟩ = some v3 ∧ w'.cell? ⟨b2, 1, none⟩ = some v4 ∧ b1 < w'.heap.size ∧ b2 < w'.heap.size ∧ Below w0.heap.size w0 w' := by
  obtain ⟨h1, h2, h3, h4, z1, z2, K⟩ := h
  exact ⟨(hb.cell (p := ⟨b1, 0, none⟩) z1).trans h1, (hb.cell (p := ⟨b1, 1, none⟩) z1).trans h2, (hb.cell (p := ⟨b2, 0, none⟩) z2).trans h3, (hb.cell (p := ⟨b2, 1, none⟩) z2).trans h4, Nat.lt_of_lt_of_le z1 hb.size, Nat.lt_of_lt_of_le z2 hb.size, K.trans (hb.mono K.size)⟩
theorem keep4_b {v1 v2 v3 v4 : Value} {b1 b2 : Nat} {w0 w : World} (h : w.cell? ⟨b1, 0, none⟩ = some v1 ∧ w.cell? ⟨b1, 1, none⟩ = some v2 ∧ w.cell? ⟨b2, 0, none⟩ = some v3 ∧ w.cell? ⟨b2, 1, none⟩ = some v4 ∧ b1 < w.heap.size ∧ b2 < w.heap.size ∧ Below w0.heap.size w0 w) : Below w0.heap.size w0 w := h.2.2.2.2.2.2
theorem big_chk {st : Int} {ss : List Nst} (h : bigN 30000 ss = true) : chkN st ss = 3 := by
  unfold bigN at h
  rw [decide_eq_true_eq] at h
  have := capF_le 30000 ss
  unfold chkN tooM
  rw [if_pos]
  simp only [Bool.or_eq_true, decide_eq_true_eq]
  omega
theorem frees_mem : ∀ {ss : List Nst} {s : Nst}, s ∈ ss → s.fr.length ≤ frees ss
  | x :: r, s, h => by
    rw [frees]
    rcases List.mem_cons.1 h with rfl | h
    · omega
    · have := frees_mem h; omega
set_option maxHeartbeats 16000000 in
theorem checks_any {D : Nat → Prop} {w : World} {st : Int} {ss : List Nst} {q : Option Addr} {c : Nat} (hD : ∀ b, D b → b < w.heap.size) (hSV : SV D w ss (.slice q ss.length c)) (hfl : ∀ s ∈ ss, s.fr.length ≤ 9223372036854775806) (hln : ss.length ≤ 9223372036854775806) :
    Calls Try.prog 3 #[nV st q ss.length c] w fun e w' => e = .returned (.bool true) ∧ Below w.heap.size w w' := by
  have S0 := Lib.hid ((Below.refl w.heap.size w).alloc (Nat.le_refl _) (.cells #[.int .i64 st, .slice q ss.length c] 24))
  have HBIG := Lib.hid fun z (hb : Below w.heap.size w z) => big_any (w := z) (st := st) 30000 (by omega) (fun b h => Nat.lt_of_lt_of_le (hD b h) hb.size) (hSV.mono (fun b h => h) (fun b h _ => hb.block b (hD b h))) hfl hln
  have HCK := Lib.hid fun z (hb : Below w.heap.size w z) => check_any (w := z) (st := st) (fun b h => Nat.lt_of_lt_of_le (hD b h) hb.size) (hSV.mono (fun b h => h) (fun b h _ => hb.block b (hD b h))) hfl hln
  have HRC := Lib.hid fun z (hb : Below w.heap.size w z) => refcheck_any (w := z) (st := st) (fun b h => Nat.lt_of_lt_of_le (hD b h) hb.size) (hSV.mono (fun b h => h) (fun b h _ => hb.block b (hD b h))) hfl hln
  unfold nV at HBIG HCK HRC ⊢
  by_cases hbig : bigN 30000 ss = true
  · have h3 : chkN st ss = 3 := big_chk hbig
    rw [hbig] at HBIG
    rw [h3] at HCK
    clear hSV hfl hln hD HRC h3 hbig
    go_enter Try.func3, Try.ntmps3
    go_wp2_with fail
    refine (HBIG.out _ S0.out).mono ?_
    rintro _ w1 ⟨rfl, hb1⟩
    have S1 := Lib.hid (S0.out.trans (hb1.mono S0.out.size))
    have k0 : w1.cell? ⟨w.heap.size, 0, none⟩ = some (.int .i64 st) := (hb1.cell (p := ⟨w.heap.size, 0, none⟩) (by simp)).trans (cell_of_row _ _ 0 _ 24 (0, 0) (heap_alloc_last w _))
    have k1 : w1.cell? ⟨w.heap.size, 1, none⟩ = some (.slice q ss.length c) := (hb1.cell (p := ⟨w.heap.size, 1, none⟩) (by simp)).trans (cell_of_row _ _ 1 _ 24 (0, 0) (heap_alloc_last w _))
    clear hb1 HBIG S0
    go_wp2_with fail
    refine (HCK.out _ S1.out).mono ?_
    rintro _ w2 ⟨rfl, hb2⟩
    have S2 := Lib.hid (S1.out.trans (hb2.mono S1.out.size))
    have HA := Lib.hid (alive_any w2)
    clear hb2 HCK S1 k0 k1
    go_wp2_with fail
    refine HA.out.mono ?_
    rintro _ w3 ⟨rfl, hb3⟩
    have S3 := Lib.hid (S2.out.trans (hb3.mono S2.out.size))
    clear hb3 HA S2
    go_wp2
    go_ret
    exact ⟨rfl, S3.out⟩
  · have hbig' : bigN 30000 ss = false := by simpa using hbig
    have hno := bigN_no hbig'
    have hln2 : ss.length ≤ 1000000 := by omega
    have hfl2 : ∀ s ∈ ss, s.fr.length ≤ 1000000 := fun s hs => by have := frees_mem hs; omega
    rw [hbig'] at HBIG
    have HTW := Lib.hid fun z (hb : Below w.heap.size w z) => twin_nfa (w := z) (st := st) (fun b h => Nat.lt_of_lt_of_le (hD b h) hb.size) (hSV.mono (fun b h => h) (fun b h _ => hb.block b (hD b h))) hfl2 hln2
    unfold nV at HTW
    have HSV := Lib.hid hSV
    have HD := Lib.hid hD
    have HFL := Lib.hid hfl2
    have HLN := Lib.hid hln2
    clear hSV hfl hln hD hbig hbig' hno hln2 hfl2
    go_enter Try.func3, Try.ntmps3
    go_wp2_with fail
    refine (HBIG.out _ S0.out).mono ?_
    rintro _ w1 ⟨rfl, hb1⟩
    have S1 := Lib.hid (S0.out.trans (hb1.mono S0.out.size))
    have k0 : w1.cell? ⟨w.heap.size, 0, none⟩ = some (.int .i64 st) := (hb1.cell (p := ⟨w.heap.size, 0, none⟩) (by simp)).trans (cell_of_row _ _ 0 _ 24 (0, 0) (heap_alloc_last w _))
    have k1 : w1.cell? ⟨w.heap.size, 1, none⟩ = some (.slice q ss.length c) := (hb1.cell (p := ⟨w.heap.size, 1, none⟩) (by simp)).trans (cell_of_row _ _ 1 _ 24 (0, 0) (heap_alloc_last w _))
    have hz1 : w.heap.size < w1.heap.size := Nat.lt_of_lt_of_le (by simp) hb1.size
    clear hb1 HBIG S0
    go_wp2_with fail
    refine (HTW.out _ S1.out).mono ?_
    rintro _ w2 ⟨g, cap, zs, rfl, hz, hT, hb2⟩
    have HZ := Lib.hid hz
    have HT := Lib.hid hT
    have S2 := Lib.hid (S1.out.trans (hb2.mono S1.out.size))
    have HB3 := Lib.hid ((Below.refl w2.heap.size w2).alloc (Nat.le_refl _) (.cells #[.int .i64 st, .slice (some ⟨g, 0, none⟩) ss.length cap] 24))
    have k0 : (w2.alloc (.cells #[.int .i64 st, .slice (some ⟨g, 0, none⟩) ss.length cap] 24)).cell? ⟨w.heap.size, 0, none⟩ = some (.int .i64 st) := (HB3.out.cell (p := ⟨w.heap.size, 0, none⟩) (Nat.lt_of_lt_of_le hz1 hb2.size)).trans ((hb2.cell (p := ⟨w.heap.size, 0, none⟩) hz1).trans k0)
    have k1 : (w2.alloc (.cells #[.int .i64 st, .slice (some ⟨g, 0, none⟩) ss.length cap] 24)).cell? ⟨w.heap.size, 1, none⟩ = some (.slice q ss.length c) := (HB3.out.cell (p := ⟨w.heap.size, 1, none⟩) (Nat.lt_of_lt_of_le hz1 hb2.size)).trans ((hb2.cell (p := ⟨w.heap.size, 1, none⟩) hz1).trans k1)
    have hz2 : w.heap.size < w2.heap.size := Nat.lt_of_lt_of_le hz1 hb2.size
    clear hb2 HTW S1 hz hT hz1
    have l0 : (w2.alloc (.cells #[.int .i64 st, .slice (some ⟨g, 0, none⟩) ss.length cap] 24)).cell? ⟨w2.heap.size, 0, none⟩ = some (.int .i64 st) := cell_of_row _ _ 0 _ 24 (0, 0) (heap_alloc_last w2 _)
    have l1 : (w2.alloc (.cells #[.int .i64 st, .slice (some ⟨g, 0, none⟩) ss.length cap] 24)).cell? ⟨w2.heap.size, 1, none⟩ = some (.slice (some ⟨g, 0, none⟩) ss.length cap) := cell_of_row _ _ 1 _ 24 (0, 0) (heap_alloc_last w2 _)
    have y1 : w.heap.size < (w2.alloc (.cells #[.int .i64 st, .slice (some ⟨g, 0, none⟩) ss.length cap] 24)).heap.size := Nat.lt_of_lt_of_le hz2 HB3.out.size
    have y2 : w2.heap.size < (w2.alloc (.cells #[.int .i64 st, .slice (some ⟨g, 0, none⟩) ss.length cap] 24)).heap.size := by simp
    have HBW : Hid (Below w.heap.size w (w2.alloc (.cells #[.int .i64 st, .slice (some ⟨g, 0, none⟩) ss.length cap] 24))) := Lib.hid (S2.out.trans (HB3.out.mono S2.out.size))
    have HT2 := Lib.hid (HT.out.up HB3.out)
    clear HT S2 HB3 hz2
    go_wp2_with fail
    obtain ⟨tb, htb⟩ : ∃ tb, w2.heap.size = tb := ⟨_, rfl⟩
    rw [htb] at l0 l1 y2 ⊢
    obtain ⟨B, hB⟩ : ∃ B, w1.heap.size = B := ⟨_, rfl⟩
    rw [hB] at HT2
    obtain ⟨wv, hwv⟩ : ∃ wv, w2.alloc (.cells #[.int .i64 st, .slice (some ⟨g, 0, none⟩) ss.length cap] 24) = wv := ⟨_, rfl⟩
    rw [hwv] at l0 l1 y2 y1 k0 k1 HBW HT2 ⊢
    clear hwv hB htb
    have HCT : Hid (∀ z : World, Below wv.heap.size wv z → Calls Try.prog 9 #[.agg #[.int .i64 st, .slice (some ⟨g, 0, none⟩) ss.length cap]] z fun e w' => e = .returned (.int .i64 (chkN st ss)) ∧ Below z.heap.size z w') := Lib.hid fun z hb => check_any (w := z) (st := st) (fun b h => h.2) (tn_sv (HT2.out.up hb) HZ.out cap) (fun s hs => by have := HFL.out s hs; omega) (by have := HLN.out; omega)
    have HRC2 : Hid (∀ z : World, Below wv.heap.size wv z → Calls Try.prog 12 #[.agg #[.int .i64 st, .slice q ss.length c]] z fun e w' => e = .returned (.int .i64 (chkN st ss)) ∧ Below z.heap.size z w') := Lib.hid fun z hb => HRC.out z (HBW.out.trans (hb.mono HBW.out.size))
    have HLF : Hid (∀ z : World, Below wv.heap.size wv z → Calls Try.prog 13 #[.agg #[.int .i64 st, .slice (some ⟨g, 0, none⟩) ss.length cap], .agg #[.int .i64 st, .slice q ss.length c]] z fun e w' => e = .returned (.bool true) ∧ Below z.heap.size z w') := Lib.hid fun z hb => by
      have hb2 := HBW.out.trans (hb.mono HBW.out.size)
      exact left_nfa (w := z) (st := st) (D := D) (fun b h => Nat.lt_of_lt_of_le (HD.out b h) hb2.size) (HSV.out.mono (fun b h => h) (fun b h _ => hb2.block b (HD.out b h))) HZ.out (HT2.out.up hb) HFL.out HLN.out
    have HAL : Hid (∀ z : World, Calls Try.prog 10 #[] z fun e w' => e = .returned (.bool true) ∧ Below z.heap.size z w') := Lib.hid alive_any
    clear HRC HCK HSV HD HFL HLN HZ HT2
    generalize chkN st ss = cn at *
    have hcn : (cn == cn) = true := by simp
    have hb0 := (Below.refl wv.heap.size wv).drew
    go_region_held3 (fun w' => w'.cell? ⟨w.heap.size, 0, none⟩ = some (.int .i64 st) ∧ w'.cell? ⟨w.heap.size, 1, none⟩ = some (.slice q ss.length c) ∧ w'.cell? ⟨tb, 0, none⟩ = some (.int .i64 st) ∧ w'.cell? ⟨tb, 1, none⟩ = some (.slice (some ⟨g, 0, none⟩) ss.length cap) ∧ w.heap.size < w'.heap.size ∧ tb < w'.heap.size ∧ Below wv.heap.size wv w')
      (first | assumption | exact ⟨k0, k1, l0, l1, y1, y2, hb0⟩ | exact keep4 (w := wv.drew) ⟨k0, k1, l0, l1, y1, y2, hb0⟩ hb | exact keep4 (by assumption) hb)
      (first | (go_at_call 9; refine (HCT.out _ (by first | exact hb0 | exact keep4_b (by assumption))).mono ?_; rintro _ w' ⟨rfl, hb⟩) | (go_at_call 12; refine (HRC2.out _ (by first | exact hb0 | exact keep4_b (by assumption))).mono ?_; rintro _ w' ⟨rfl, hb⟩) | (go_at_call 13; refine (HLF.out _ (by first | exact hb0 | exact keep4_b (by assumption))).mono ?_; rintro _ w' ⟨rfl, hb⟩) | (go_at_call 10; refine (HAL.out _).mono ?_; rintro _ w' ⟨rfl, hb⟩))
    have hE : Below wv.heap.size wv w' := keep4_b (by assumption)
    have HE := Lib.hid (HBW.out.trans (hE.mono HBW.out.size))
    go_wp2
    go_ret
    exact ⟨rfl, HE.out⟩
end Go.Proofs.Ytnhfeakndofokaa
end
section
/- Package nfa. -/
namespace Go.Proofs.Ytnhfeakndofokaa
set_option linter.unusedSimpArgs false
set_option linter.unusedVariables false
set_option maxRecDepth 100000
open Go.RowKit
/- NfaBegins: the new automaton's making, in whatever order. -/
def nw (x : Value) : Array Value := stC (fun _ => 0) (-1) x (-1)
structure FB (st : Int) (n : Nat) (xs : List Value) (l3 l6 l9 l10 l11 l12 l13 l14 l15 : Bool) (x3 x6 x9 x10 x11 x12 x13 x14 : Value) (L : List It) : Prop where
  f3 : l3 = true → l6 = false → It.row x3 49 7 0 [] ∈ L
  f6 : l6 = true → l12 = false → It.row x6 49 7 n xs ∈ L
  f9 : l9 = true → ∃ b, x9 = .slice (some ⟨b, 0, none⟩) 1 1 ∧ It.box b (.cells #[.int .i64 st] 3 (0, 0)) ∈ L
  f10 : l10 = true → x10 = .agg (nw x9)
  f11 : l11 = true → ∃ b, x11 = .slice (some ⟨b, 0, none⟩) 1 1 ∧ It.box b (.cells (nw x9) 49 (0, 0)) ∈ L
  f12 : l12 = true → It.row x12 49 7 (n + 1) (xs ++ (nw x9).toList) ∈ L
  f13 : l13 = true → x13 = .agg #[.int .i64 (n : Nat), x12]
  f14 : l14 = true → ∃ b, x14 = .pointer (some ⟨b, 0, none⟩) ∧ (l15 = false → It.box b (.cells #[.int .i64 0, .slice none 0 0] 24 (0, 0)) ∈ L) ∧ (l15 = true → It.box b (.cells #[.int .i64 (n : Nat), x12] 24 (0, 0)) ∈ L)
section
variable {B : Nat} {w0 w w' : World} {st : Int} {n : Nat} {xs : List Value} {l3 l6 l9 l10 l11 l12 l13 l14 l15 : Bool} {x3 x6 x9 x10 x11 x12 x13 x14 : Value}
def FS (B : Nat) (w0 : World) (st : Int) (n : Nat) (xs : List Value) (l3 l6 l9 l10 l11 l12 l13 l14 l15 : Bool) (x3 x6 x9 x10 x11 x12 x13 x14 : Value) (w : World) : Prop := ∃ L, Sep B w0 w L ∧ FB st n xs l3 l6 l9 l10 l11 l12 l13 l14 l15 x3 x6 x9 x10 x11 x12 x13 x14 L
theorem FB.mono {L M : List It} (h : FB st n xs l3 l6 l9 l10 l11 l12 l13 l14 l15 x3 x6 x9 x10 x11 x12 x13 x14 L) (hs : ∀ y ∈ L, y ∈ M) : FB st n xs l3 l6 l9 l10 l11 l12 l13 l14 l15 x3 x6 x9 x10 x11 x12 x13 x14 M :=
  ⟨fun a b => hs _ (h.f3 a b), fun a b => hs _ (h.f6 a b), fun a => (h.f9 a).elim fun b hb => ⟨b, hb.1, hs _ hb.2⟩, h.f10, fun a => (h.f11 a).elim fun b hb => ⟨b, hb.1, hs _ hb.2⟩, fun a => hs _ (h.f12 a), h.f13, fun a => (h.f14 a).elim fun b hb => ⟨b, hb.1, fun c => hs _ (hb.2.1 c), fun c => hs _ (hb.2.2 c)⟩⟩
theorem fs_start (h : Sep B w0 w []) : FS B w0 st n xs false false false false false false false false false x3 x6 x9 x10 x11 x12 x13 x14 w :=
  ⟨[], h, ⟨nofun, nofun, nofun, nofun, nofun, nofun, nofun, nofun⟩⟩
theorem fs3 (h : FS B w0 st n xs l3 l6 l9 l10 l11 l12 l13 l14 l15 x3 x6 x9 x10 x11 x12 x13 x14 w) : FS B w0 st n xs true l6 l9 l10 l11 l12 l13 l14 l15 (.slice (some ⟨w.heap.size, 0, none⟩) 0 0) x6 x9 x10 x11 x12 x13 x14 (w.alloc (.cells #[] 49)) := by
  obtain ⟨L, hS, hF⟩ := h
  have hM := hF.mono (M := .row (.slice (some ⟨w.heap.size, 0, none⟩) 0 0) 49 7 0 [] :: L) fun y hy => List.mem_cons_of_mem _ hy
  exact ⟨_, (hS.alloc (.cells #[] 49)).empty, ⟨fun _ _ => List.mem_cons_self .., hM.f6, hM.f9, hM.f10, hM.f11, hM.f12, hM.f13, hM.f14⟩⟩
theorem fs9 (h : FS B w0 st n xs l3 l6 l9 l10 l11 l12 l13 l14 l15 x3 x6 x9 x10 x11 x12 x13 x14 w) (h10 : l10 = false) (h11 : l11 = false) (h12 : l12 = false) : FS B w0 st n xs l3 l6 true l10 l11 l12 l13 l14 l15 x3 x6 (.slice (some ⟨w.heap.size, 0, none⟩) 1 1) x10 x11 x12 x13 x14 (w.alloc (.cells #[.int .i64 st] 3)) := by
  obtain ⟨L, hS, hF⟩ := h
  subst h10 h11 h12
  have hM := hF.mono (M := .box w.heap.size (.cells #[.int .i64 st] 3 (0, 0)) :: L) fun y hy => List.mem_cons_of_mem _ hy
  exact ⟨_, hS.alloc (.cells #[.int .i64 st] 3), ⟨hM.f3, hM.f6, fun _ => ⟨_, rfl, List.mem_cons_self ..⟩, nofun, nofun, nofun, hM.f13, hM.f14⟩⟩
theorem fs10 (h : FS B w0 st n xs l3 l6 l9 l10 l11 l12 l13 l14 l15 x3 x6 x9 x10 x11 x12 x13 x14 w) : FS B w0 st n xs l3 l6 l9 true l11 l12 l13 l14 l15 x3 x6 x9 (.agg (nw x9)) x11 x12 x13 x14 w := by
  obtain ⟨L, hS, hF⟩ := h
  exact ⟨L, hS, ⟨hF.f3, hF.f6, hF.f9, fun _ => rfl, hF.f11, hF.f12, hF.f13, hF.f14⟩⟩
theorem fs11 (h : FS B w0 st n xs l3 l6 l9 l10 l11 l12 l13 l14 l15 x3 x6 x9 x10 x11 x12 x13 x14 w) : FS B w0 st n xs l3 l6 l9 l10 true l12 l13 l14 l15 x3 x6 x9 x10 (.slice (some ⟨w.heap.size, 0, none⟩) 1 1) x12 x13 x14 (w.alloc (.cells (nw x9) 49)) := by
  obtain ⟨L, hS, hF⟩ := h
  have hM := hF.mono (M := .box w.heap.size (.cells (nw x9) 49 (0, 0)) :: L) fun y hy => List.mem_cons_of_mem _ hy
  exact ⟨_, hS.alloc (.cells (nw x9) 49), ⟨hM.f3, hM.f6, hM.f9, hM.f10, fun _ => ⟨_, rfl, List.mem_cons_self ..⟩, hM.f12, hM.f13, hM.f14⟩⟩
theorem fs13 (h : FS B w0 st n xs l3 l6 l9 l10 l11 l12 l13 l14 l15 x3 x6 x9 x10 x11 x12 x13 x14 w) : FS B w0 st n xs l3 l6 l9 l10 l11 l12 true l14 l15 x3 x6 x9 x10 x11 x12 (.agg #[.int .i64 (n : Nat), x12]) x14 w := by
  obtain ⟨L, hS, hF⟩ := h
  exact ⟨L, hS, ⟨hF.f3, hF.f6, hF.f9, hF.f10, hF.f11, hF.f12, fun _ => rfl, hF.f14⟩⟩
theorem fs14 (h : FS B w0 st n xs l3 l6 l9 l10 l11 l12 l13 l14 l15 x3 x6 x9 x10 x11 x12 x13 x14 w) (h15 : l15 = false) : FS B w0 st n xs l3 l6 l9 l10 l11 l12 l13 true l15 x3 x6 x9 x10 x11 x12 x13 (.pointer (some ⟨w.heap.size, 0, none⟩)) (w.alloc (.cells #[.int .i64 0, .slice none 0 0] 24)) := by
  obtain ⟨L, hS, hF⟩ := h
  subst h15
  have hM := hF.mono (M := .box w.heap.size (.cells #[.int .i64 0, .slice none 0 0] 24 (0, 0)) :: L) fun y hy => List.mem_cons_of_mem _ hy
  exact ⟨_, hS.alloc (.cells #[.int .i64 0, .slice none 0 0] 24), ⟨hM.f3, hM.f6, hM.f9, hM.f10, hM.f11, hM.f12, hM.f13, fun _ => ⟨_, rfl, fun _ => List.mem_cons_self .., nofun⟩⟩⟩
theorem fs_own3 (h : FS B w0 st n xs l3 l6 l9 l10 l11 l12 l13 l14 l15 x3 x6 x9 x10 x11 x12 x13 x14 w) (h3 : l3 = true) (h6 : l6 = false) : w.ownsRow B 49 7 x3 0 [] := by
  obtain ⟨L, hS, hF⟩ := h
  exact hS.li _ (hF.f3 h3 h6)
theorem fs_own6 (h : FS B w0 st n xs l3 l6 l9 l10 l11 l12 l13 l14 l15 x3 x6 x9 x10 x11 x12 x13 x14 w) (h3 : l6 = true) (h6 : l12 = false) : w.ownsRow B 49 7 x6 n xs := by
  obtain ⟨L, hS, hF⟩ := h
  exact hS.li _ (hF.f6 h3 h6)
theorem fs_bel (h : FS B w0 st n xs l3 l6 l9 l10 l11 l12 l13 l14 l15 x3 x6 x9 x10 x11 x12 x13 x14 w) : Below B w0 w ∧ B ≤ w.heap.size := by
  obtain ⟨L, hS, hF⟩ := h
  exact ⟨hS.bel, hS.sz⟩
theorem fs_at9 (h : FS B w0 st n xs l3 l6 l9 l10 l11 l12 l13 l14 l15 x3 x6 x9 x10 x11 x12 x13 x14 w) (h9 : l9 = true) : ∃ b, x9 = .slice (some ⟨b, 0, none⟩) 1 1 ∧ B ≤ b ∧ w.heap[b]? = some (.cells #[.int .i64 st] 3 (0, 0)) := by
  obtain ⟨L, hS, hF⟩ := h
  obtain ⟨b, h1, h2⟩ := hF.f9 h9
  exact ⟨b, h1, hS.li _ h2⟩
theorem fs_at11 (h : FS B w0 st n xs l3 l6 l9 l10 l11 l12 l13 l14 l15 x3 x6 x9 x10 x11 x12 x13 x14 w) (h9 : l11 = true) : ∃ b, x11 = .slice (some ⟨b, 0, none⟩) 1 1 ∧ B ≤ b ∧ w.heap[b]? = some (.cells (nw x9) 49 (0, 0)) := by
  obtain ⟨L, hS, hF⟩ := h
  obtain ⟨b, h1, h2⟩ := hF.f11 h9
  exact ⟨b, h1, hS.li _ h2⟩
theorem fs_at10 (h : FS B w0 st n xs l3 l6 l9 l10 l11 l12 l13 l14 l15 x3 x6 x9 x10 x11 x12 x13 x14 w) (h10 : l10 = true) : x10 = .agg (nw x9) := by
  obtain ⟨L, hS, hF⟩ := h
  exact hF.f10 h10
theorem fs_at13 (h : FS B w0 st n xs l3 l6 l9 l10 l11 l12 l13 l14 l15 x3 x6 x9 x10 x11 x12 x13 x14 w) (h10 : l13 = true) : x13 = .agg #[.int .i64 (n : Nat), x12] := by
  obtain ⟨L, hS, hF⟩ := h
  exact hF.f13 h10
theorem fs_at14 (h : FS B w0 st n xs l3 l6 l9 l10 l11 l12 l13 l14 l15 x3 x6 x9 x10 x11 x12 x13 x14 w) (h9 : l14 = true) (h15 : l15 = false) : ∃ b, x14 = .pointer (some ⟨b, 0, none⟩) ∧ B ≤ b ∧ w.heap[b]? = some (.cells #[.int .i64 0, .slice none 0 0] 24 (0, 0)) := by
  obtain ⟨L, hS, hF⟩ := h
  obtain ⟨b, h1, h2, _⟩ := hF.f14 h9
  exact ⟨b, h1, hS.li _ (h2 h15)⟩
theorem fs6 (h : FS B w0 st n xs l3 l6 l9 l10 l11 l12 l13 l14 l15 x3 x6 x9 x10 x11 x12 x13 x14 w) (h3 : l3 = true) (h6 : l6 = false) (h12 : l12 = false) {v : Value} (hown : w'.ownsRow B 49 7 v (0 + n) ([] ++ xs)) (hg : w.grownBy w' x3.ownBlock) (hat : v.ownBlock = x3.ownBlock ∨ v.ownBlock = some w.heap.size) : FS B w0 st n xs l3 true l9 l10 l11 l12 l13 l14 l15 x3 v x9 x10 x11 x12 x13 x14 w' := by
  obtain ⟨L, hS, hF⟩ := h
  subst h12
  obtain ⟨M, hM, hs⟩ := hS.front (hF.f3 h3 h6)
  rw [Nat.zero_add, List.nil_append] at hown
  have hN := hM.app hown hg hat
  have hb : ∀ b o, It.box b o ∈ L → It.box b o ∈ (It.row v 49 7 n xs :: M) := fun b o hb => List.mem_cons_of_mem _ (hs _ hb (by simp))
  exact ⟨_, hN, ⟨nofun, fun _ _ => List.mem_cons_self .., fun a => (hF.f9 a).elim fun b h => ⟨b, h.1, hb _ _ h.2⟩, hF.f10, fun a => (hF.f11 a).elim fun b h => ⟨b, h.1, hb _ _ h.2⟩, nofun, hF.f13, fun a => (hF.f14 a).elim fun b h => ⟨b, h.1, fun c => hb _ _ (h.2.1 c), fun c => hb _ _ (h.2.2 c)⟩⟩⟩
theorem fs12 (h : FS B w0 st n xs l3 l6 l9 l10 l11 l12 l13 l14 l15 x3 x6 x9 x10 x11 x12 x13 x14 w) (h6 : l6 = true) (h12 : l12 = false) (h13 : l13 = false) (h15 : l15 = false) {v : Value} (hown : w'.ownsRow B 49 7 v (n + 1) (xs ++ (nw x9).toList)) (hg : w.grownBy w' x6.ownBlock) (hat : v.ownBlock = x6.ownBlock ∨ v.ownBlock = some w.heap.size) : FS B w0 st n xs l3 l6 l9 l10 l11 true l13 l14 l15 x3 x6 x9 x10 x11 v x13 x14 w' := by
  obtain ⟨L, hS, hF⟩ := h
  subst h6 h13 h15
  obtain ⟨M, hM, hs⟩ := hS.front (hF.f6 rfl h12)
  have hN := hM.app hown hg hat
  have hb : ∀ b o, It.box b o ∈ L → It.box b o ∈ (It.row v 49 7 (n + 1) (xs ++ (nw x9).toList) :: M) := fun b o hb => List.mem_cons_of_mem _ (hs _ hb (by simp))
  exact ⟨_, hN, ⟨nofun, nofun, fun a => (hF.f9 a).elim fun b h => ⟨b, h.1, hb _ _ h.2⟩, hF.f10, fun a => (hF.f11 a).elim fun b h => ⟨b, h.1, hb _ _ h.2⟩, fun _ => List.mem_cons_self .., nofun, fun a => (hF.f14 a).elim fun b h => ⟨b, h.1, fun c => hb _ _ (h.2.1 c), nofun⟩⟩⟩
theorem fs15 (h : FS B w0 st n xs l3 l6 l9 l10 l11 l12 l13 l14 l15 x3 x6 x9 x10 x11 x12 x13 x14 w) (h14 : l14 = true) (h15 : l15 = false) {b : Nat} (he : x14 = .pointer (some ⟨b, 0, none⟩)) (hg : w.grownBy w' (some b)) (hb : w'.heap[b]? = some (.cells #[.int .i64 (n : Nat), x12] 24 (0, 0))) : FS B w0 st n xs l3 l6 l9 l10 l11 l12 l13 l14 true x3 x6 x9 x10 x11 x12 x13 x14 w' := by
  obtain ⟨L, hS, hF⟩ := h
  subst h15
  obtain ⟨b', e1, h2, _⟩ := hF.f14 h14
  rw [he] at e1
  have e2 : b = b' := by simpa using e1
  subst e2
  obtain ⟨M, hM, hs⟩ := hS.front (h2 rfl)
  have hN := hM.put hg hb
  have hr : ∀ v e s m zs, It.row v e s m zs ∈ L → It.row v e s m zs ∈ (It.box b (.cells #[.int .i64 (n : Nat), x12] 24 (0, 0)) :: M) := fun v e s m xs h => List.mem_cons_of_mem _ (hs _ h (by simp))
  have hb9 : ∀ b' o', It.box b' o' ∈ L → o' ≠ .cells #[.int .i64 0, .slice none 0 0] 24 (0, 0) → It.box b' o' ∈ (It.box b (.cells #[.int .i64 (n : Nat), x12] 24 (0, 0)) :: M) := fun b' o' h hne => List.mem_cons_of_mem _ (hs _ h (fun e => hne (by injection e)))
  exact ⟨_, hN, ⟨fun a c => hr _ _ _ _ _ (hF.f3 a c), fun a c => hr _ _ _ _ _ (hF.f6 a c), fun a => (hF.f9 a).elim fun b h => ⟨b, h.1, hb9 _ _ h.2 (by simp)⟩, hF.f10, fun a => (hF.f11 a).elim fun b h => ⟨b, h.1, hb9 _ _ h.2 (by simp)⟩, fun a => hr _ _ _ _ _ (hF.f12 a), hF.f13, fun _ => ⟨b, he, nofun, fun _ => List.mem_cons_self ..⟩⟩⟩
end
theorem fs_row12 {B : Nat} {w0 w : World} {st : Int} {n : Nat} {xs : List Value} {l3 l6 l9 l10 l11 l12 l13 l14 l15 : Bool} {x3 x6 x9 x10 x11 x12 x13 x14 : Value} (h : FS B w0 st n xs l3 l6 l9 l10 l11 l12 l13 l14 l15 x3 x6 x9 x10 x11 x12 x13 x14 w) (h12 : l12 = true) : w.ownsRow B 49 7 x12 (n + 1) (xs ++ (nw x9).toList) := by
  obtain ⟨L, hS, hF⟩ := h
  exact hS.li _ (hF.f12 h12)
theorem own_form {w : World} {B : Nat} {e : TypeId} {size : Nat} {v : Value} {n : Nat} {xs : List Value} (h : w.ownsRow B e size v n xs) : ∃ p m c, v = .slice p m c := by
  rcases h.2 with ⟨rfl, rfl⟩ | ⟨g, cap, cur, rfl, _⟩
  · exact ⟨_, _, _, rfl⟩
  · exact ⟨_, _, _, rfl⟩
theorem sv_zs {D : Nat → Prop} {w : World} {ss : List Nst} {q : Option Addr} {c : Nat} (h : SV D w ss (.slice q ss.length c)) (hne : ss ≠ []) : ∃ b o, q = some ⟨b, o, none⟩ ∧ D b ∧ ∃ zs : List Nq, zs.map (fun z : Nq => z.1) = ss ∧ (∀ i (h : i < zs.length), IV D w zs[i].1.fr (.slice zs[i].2.1 zs[i].1.fr.length zs[i].2.2)) ∧ ∀ j u, (flat (zs.map zC))[j]? = some u → w.cell? ((⟨b, o, none⟩ : Addr).add j) = some u := by
  obtain ⟨p, c', he, hh⟩ := h
  injection he with e1 e2 e3
  subst e1
  obtain ⟨b, o, rfl, hD, hc⟩ := hh hne
  refine ⟨b, o, rfl, hD, ?_⟩
  have : Inhabited (Option Addr × Nat) := ⟨(none, 0)⟩
  have each : ∀ i, i < ss.length → ∃ y : Option Addr × Nat, ∀ (hi : i < ss.length), IV D w ss[i].fr (.slice y.1 ss[i].fr.length y.2) ∧ ∀ j v, (stC ss[i].u ss[i].to (.slice y.1 ss[i].fr.length y.2) ss[i].rl)[j]? = some v → w.cell? ⟨b, o + i * 7 + j, none⟩ = some v := fun i hi => by
    obtain ⟨qf, f, h1, h2⟩ := hc i hi
    exact ⟨(qf, f), fun _ => ⟨h1, h2⟩⟩
  obtain ⟨y, hy⟩ := Go.Deep.choose_lt each
  refine ⟨(List.range ss.length).attach.map fun i => (ss[i.1]'(List.mem_range.1 i.2), y i.1), ?_, fun i hi => ?_, fun j u hu => ?_⟩
  · apply List.ext_getElem
    · simp
    · intro i h1 h2; simp
  · have hi' : i < ss.length := by simpa using hi
    have := (hy i hi' hi').1
    simpa using this
  · have hlen : j < ss.length * 7 := by
      have h1 := (List.getElem?_eq_some_iff.1 hu).1
      have h2 : ∀ l : List Nq, (flat (l.map zC)).length = l.length * 7 := fun l => by
        induction l with
        | nil => rfl
        | cons z r ih => simp only [List.map_cons, flat, List.length_append, ih, Array.length_toList, zC_size, List.length_cons]; omega
      rw [h2] at h1
      simpa using h1
    have hi : j / 7 < ss.length := by omega
    have hm : j % 7 < 7 := Nat.mod_lt _ (by omega)
    have e : j = j / 7 * 7 + j % 7 := by omega
    rw [e, flatz_get _ (j / 7) (by simpa using hi) (j % 7) hm] at hu
    have h3 := (hy (j / 7) hi hi).2 (j % 7) u (by simpa [zC] using hu)
    rw [Addr.add_mid, show o + j = o + j / 7 * 7 + j % 7 by omega]
    exact h3
theorem flatz_one (zs : List Nq) : ∀ u ∈ flat (zs.map zC), u.oneCell' = true := by
  induction zs with
  | nil => intro u hu; simp [flat] at hu
  | cons z r ih =>
    intro u hu
    rw [List.map_cons, flat, List.mem_append] at hu
    rcases hu with hu | hu
    · simp [zC, stC] at hu
      rcases hu with rfl | rfl | rfl | rfl | rfl | rfl | rfl <;> rfl
    · exact ih u hu
theorem fs_fin {B : Nat} {w0 w : World} {st : Int} {n : Nat} {xs : List Value} {x3 x6 x9 x10 x11 x12 x13 x14 : Value} (h : FS B w0 st n xs true true true true true true true true true x3 x6 x9 x10 x11 x12 x13 x14 w) : ∃ b14, x14 = .pointer (some ⟨b14, 0, none⟩) ∧ B ≤ b14 ∧ ∃ g cap b9, x12 = .slice (some ⟨g, 0, none⟩) (n + 1) cap ∧ x9 = .slice (some ⟨b9, 0, none⟩) 1 1 ∧ w.ownsRow B 49 7 x12 (n + 1) (xs ++ (nw x9).toList) ∧ w.heap[b9]? = some (.cells #[.int .i64 st] 3 (0, 0)) ∧ w.heap[b14]? = some (.cells #[.int .i64 (n : Nat), x12] 24 (0, 0)) ∧ Below B w0 w := by
  obtain ⟨L, hS, hF⟩ := h
  obtain ⟨b14, e14, _, h14⟩ := hF.f14 rfl
  obtain ⟨b9, e9, h9⟩ := hF.f9 rfl
  have hrow := hS.li _ (hF.f12 rfl)
  obtain ⟨g, cap, e12, _⟩ := row_own hrow (by omega)
  exact ⟨b14, e14, (hS.li _ (h14 rfl)).1, g, cap, b9, e12, e9, hrow, (hS.li _ h9).2, (hS.li _ (h14 rfl)).2, hS.bel⟩
theorem sv_row {B : Nat} {E : Nat → Prop} {w : World} {zs : List Nq} {g cap : Nat} (hown : w.ownsRow B 49 7 (.slice (some ⟨g, 0, none⟩) zs.length cap) zs.length (flat (zs.map zC))) (hg : E g) (hiv : ∀ i (h : i < zs.length), IV E w zs[i].1.fr (.slice zs[i].2.1 zs[i].1.fr.length zs[i].2.2)) (c : Nat) : SV E w (zs.map fun z : Nq => z.1) (.slice (some ⟨g, 0, none⟩) (zs.map fun z : Nq => z.1).length c) := by
  refine ⟨_, _, rfl, fun hne => ⟨g, 0, rfl, hg, fun i hi => ?_⟩⟩
  have hi' : i < zs.length := by simpa using hi
  have e : (zs.map (fun z : Nq => z.1))[i] = zs[i].1 := by simp
  rw [e]
  refine ⟨zs[i].2.1, zs[i].2.2, hiv i hi', fun j y hy => ?_⟩
  have hj : j < 7 := by have := (Array.getElem?_eq_some_iff.1 hy).1; simpa [stC] using this
  have := hown.cells (g := g) rfl (i * 7 + j) y (by rw [flatz_get _ i hi' j hj]; exact hy)
  rw [Addr.add_mid] at this
  rw [← this, Nat.zero_add, Nat.zero_add]
theorem sv_more {B : Nat} {w0 w : World} {st : Int} {ss : List Nst} {zs : List Nq} {g cap b9 : Nat} (hzs : zs.map (fun z : Nq => z.1) = ss) (hiv : ∀ i (h : i < zs.length), IV (fun b => b < w0.heap.size) w0 zs[i].1.fr (.slice zs[i].2.1 zs[i].1.fr.length zs[i].2.2)) (hbel : Below w0.heap.size w0 w) (hown : w.ownsRow B 49 7 (.slice (some ⟨g, 0, none⟩) (ss.length + 1) cap) (ss.length + 1) (flat (zs.map zC) ++ (nw (.slice (some ⟨b9, 0, none⟩) 1 1)).toList)) (h9 : w.heap[b9]? = some (.cells #[.int .i64 st] 3 (0, 0))) : SV (fun b => b < w.heap.size) w (more1 st ss) (.slice (some ⟨g, 0, none⟩) (ss.length + 1) cap) := by
  have hl : zs.length = ss.length := by rw [← hzs]; simp
  have h := sv_row (B := B) (E := fun b => b < w.heap.size) (w := w) (zs := zs ++ [(⟨fun _ => 0, -1, [st], -1⟩, some ⟨b9, 0, none⟩, 1)]) (g := g) (cap := cap) (by
    rw [List.map_append, flat_app, List.length_append, hl]
    have e2 : flat (List.map zC [((⟨fun _ => 0, -1, [st], -1⟩ : Nst), some (⟨b9, 0, none⟩ : Addr), 1)]) = (nw (.slice (some ⟨b9, 0, none⟩) 1 1)).toList := by simp [flat]; rfl
    rw [e2]
    exact hown) (hown.lt g rfl).2 (fun i hi => by
    by_cases hlt : i < zs.length
    · rw [List.getElem_append_left hlt]
      exact (hiv i hlt).mono (fun b hb => Nat.lt_of_lt_of_le hb hbel.size) (fun b hb _ => hbel.block b hb)
    · have e : i = zs.length := by simp at hi; omega
      subst e
      have e1 : (zs ++ [((⟨fun _ => 0, -1, [st], -1⟩ : Nst), some (⟨b9, 0, none⟩ : Addr), 1)])[zs.length]'hi = (⟨fun _ => 0, -1, [st], -1⟩, some ⟨b9, 0, none⟩, 1) := by simp
      rw [e1]
      refine ⟨_, _, rfl, fun _ => ⟨b9, 0, rfl, (Array.getElem?_eq_some_iff.1 h9).1, fun k hk => ?_⟩⟩
      have hk0 : k = 0 := by simp at hk; omega
      subst hk0
      rw [cell_of_row w b9 _ _ 3 (0, 0) h9]
      rfl) cap
  rw [List.map_append, hzs, List.length_append] at h
  exact h
end Go.Proofs.Ytnhfeakndofokaa
end
