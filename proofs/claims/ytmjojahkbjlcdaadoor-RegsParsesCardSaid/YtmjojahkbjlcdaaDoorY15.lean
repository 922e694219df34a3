/- Texts of package regs, one behind the other. -/
import Derived.Test.YtmjojahkbjlcdaaDoorProg
import Derived.Test.YtmjojahkbjlcdaaDoorY3
import Derived.Test.YtmjojahkbjlcdaaDoorY4
import Derived.WalkKit
import Derived.WalkLawsBesides
import Derived.WalkSpells
import Derived.Outline
import Derived.Lib.Walk
import Derived.Lib.Hide
import Derived.RegionTactic
import Derived.LoopTactic
import Derived.Below
import Derived.IntWalk
import Derived.Deep.QuietTactic
import Derived.BigQuiet
import Derived.Test.YtmjojahkbjlcdaaDoorY14
import Derived.Deep.MidRow
import Derived.Maps.AppendAt
section
/- Package regs: the reader's small steps: what comes next. -/
namespace Go.Proofs.YtmjojahkbjlcdaaDoor
set_option linter.unusedSimpArgs false
set_option linter.unusedVariables false
set_option maxRecDepth 100000
open Go.RowKit

theorem ah_hid {rb : Nat} {s : ByteArray} {q : List UInt8} (B : ByteArray) (h : Suf s q) (v : Bool) (hv : ahl B.data.toList q = v) : AH rb B s (s.size - q.length) v :=
  Lib.hid fun w hg => by subst hv; exact (ahead_any (q := q) B ⟨h, hg⟩).mono fun e w' k => ⟨k.1, k.2.gk⟩
theorem TreeP.set {rb : Nat} {s : ByteArray} {w w' : World} {u : Nat → Int} {q : List UInt8} {e : Ending} (hs : Suf s q) (h : e = .returned (.agg (nodeC 2 u (.slice none 0 0))) ∧ Gk rb s (s.size - q.length) w w') : TreeP rb s w (.ok (setT u, q)) e w' :=
  ⟨⟨_, h.1, RV.leaf 2 u none 0⟩, .of hs h.2⟩
theorem head_ne {q : List UInt8} {c : UInt8} (h : ¬ q.head? = some c) : ahl (⟨#[c]⟩ : ByteArray).data.toList q = false := by rw [ahl_one]; simp [h]
theorem head_eq {q : List UInt8} {c : UInt8} (h : q.head? = some c) : ahl (⟨#[c]⟩ : ByteArray).data.toList q = true := by rw [ahl_one]; simp [h]
theorem wtn_suf {s : ByteArray} {l : List UInt8} (h : Suf s l) (hs : s.size ≤ 1000) : match wtn l with | .error r => Suf s r | .ok (_, r) => Suf s r := by
  have := wr_hid (rb := 0) h (by omega : s.size ≤ 9223372036854775806)
  cases hw : wtn l with
  | error r => rw [hw] at this; exact this.1
  | ok v => rw [hw] at this; exact this.1
theorem itl_suf {s : ByteArray} {l : List UInt8} (h : Suf s l) (hs : s.size ≤ 1000) : match itl l with | .error r => Suf s r | .ok (_, r) => Suf s r := by
  have h1 := wtn_suf h hs
  unfold itl
  cases hw : wtn l with
  | error r => rw [hw] at h1; exact h1
  | ok v =>
    obtain ⟨⟨a, x⟩, r⟩ := v
    rw [hw] at h1
    cases r with
    | nil => exact h1
    | cons c r2 =>
      by_cases hc : c = 45
      · subst hc
        simp only [if_true]
        have h2 := wtn_suf h1.tl hs
        cases hw2 : wtn r2 with
        | error t => rw [hw2] at h2; exact h2
        | ok v2 =>
          obtain ⟨⟨b, y⟩, t⟩ := v2
          rw [hw2] at h2
          by_cases hxy : x ≤ y
          · simp only [hxy, if_true]; exact h2
          · simp only [hxy, if_false]
            refine Suf.drop (p := b.take (b.length - 1)) ?_
            rw [← List.append_assoc, List.take_append_drop, ← (wtn_ok hw2).2]; exact Suf.tl h1
      · simp only [hc, if_false]; exact h1
theorem cl_suf {s : ByteArray} (hs : s.size ≤ 1000) : ∀ (k : Nat) {l : List UInt8}, Suf s l → match cl k l with | .error r => Suf s r | .ok (_, r) => Suf s r
  | 0, l, h => h
  | k + 1, l, h => by
    rw [cl]
    by_cases hh : l.head? = some 93
    · rw [if_pos hh]
      cases l with
      | nil => exact h
      | cons c r => exact h.tl
    · rw [if_neg hh]
      have h1 := itl_suf h hs
      cases hi : itl l with
      | error q => rw [hi] at h1; exact h1
      | ok v => obtain ⟨⟨⟩, r⟩ := v; rw [hi] at h1; exact cl_suf hs k h1
theorem csl_suf {s : ByteArray} {l : List UInt8} (h : Suf s l) (hs : s.size ≤ 1000) : match csl l with | .error r => Suf s r | .ok (x, r) => Suf s r ∧ x = vv (csu l r) := by
  unfold csl
  have h1 : Suf s (hat l.tail) := by
    have h0 : Suf s l.tail := by
      cases l with
      | nil => exact h
      | cons c r => exact h.tl
    unfold hat; split
    · cases hl : l.tail with
      | nil => rw [hl] at h0; exact h0
      | cons c r => rw [hl] at h0; exact h0.tl
    · exact h0
  have h2 := cl_suf hs ((hat l.tail).length + 1) h1
  cases hc : cl ((hat l.tail).length + 1) (hat l.tail) with
  | error t => rw [hc] at h2; exact h2
  | ok v => obtain ⟨⟨⟩, t⟩ := v; rw [hc] at h2; exact ⟨h2, setO_uO _⟩
theorem sgl_suf {s : ByteArray} {l : List UInt8} (h : Suf s l) : match sgl l with | .error r => Suf s r | .ok (_, r) => Suf s r := by
  cases l with
  | nil => exact h
  | cons c r =>
    by_cases hc : c = 92
    · subst hc
      cases r with
      | nil => exact h.tl
      | cons d q =>
        simp only [sgl]
        cases hl : ltr d with
        | some x => exact h.tl.tl
        | none =>
          simp only []
          split
          · rename_i heq; split at heq <;> cases heq; exact h.tl
          · rename_i heq; split at heq <;> cases heq; exact h.tl.tl
    · have e0 : sgl (c :: r) = if sgs.contains c then .error (c :: r) else .ok (c, r) := by
        unfold sgl; split <;> simp_all
      rw [e0]
      split
      · rename_i heq; split at heq <;> cases heq; exact h
      · rename_i heq; split at heq <;> cases heq; exact h.tl
theorem atom_any {rb : Nat} {s : ByteArray} {q : List UInt8} {w : World} (ch : List UInt8 → Except (List UInt8) (RT × List UInt8)) (h : GA rb s q w) (hs : s.size ≤ 1000) (hch : ∀ q', q'.length < q.length → Suf s q' → CHO rb s q' (ch q')) :
    Calls Tryd.prog 98 #[.pointer (some ⟨rb, 0, none⟩)] w (TreeP rb s w (atomF ch q)) := by
  have hs' : s.size ≤ 9223372036854775806 := by omega
  unfold atomF
  by_cases h1 : q.head? = some 40
  · rw [if_pos h1]
    obtain ⟨r, rfl⟩ : ∃ r, q = 40 :: r := by
      cases q with
      | nil => simp at h1
      | cons c r => simp at h1; exact ⟨r, by rw [h1]⟩
    have hP := ps_hid (rb := rb) ⟨#[40]⟩ h.1 hs' true rfl
    have hC := hch r (by simp) h.1.tl
    simp only [List.tail_cons]
    cases hc : ch r with
    | error t => rw [hc] at hC; exact (atom_Ae r t h.1.tl h.2 hP hC).mono fun e w' k => k
    | ok v =>
      obtain ⟨t, q2⟩ := v
      rw [hc] at hC
      have hq2 : Suf s q2 ∨ ¬ Suf s q2 := Classical.em _
      rcases hq2 with hq2 | hq2
      · cases q2 with
        | nil => exact (atom_An r [] t h.1.tl h.2 hP hC (next_hid0 hs' hq2)).mono fun e w' k => ⟨k.1, .of hq2 k.2⟩
        | cons c q3 => exact (atom_A c r (c :: q3) t h.1.tl h.2 hP hC (next_hid hq2 hs')).mono fun e w' k => ⟨k.1, .of hq2.tl k.2⟩
      · have hbad : CHO rb s r (.error q2) := Lib.hid fun w hg => (hC.out w hg).mono fun e w' k => absurd k.2.2.1 hq2
        cases q2 with
        | nil => exact (atom_Ae r [] h.1.tl h.2 hP hbad).mono fun e w' k => absurd k.2.2.1 hq2
        | cons c q3 => exact (atom_Ae r (c :: q3) h.1.tl h.2 hP hbad).mono fun e w' k => absurd k.2.2.1 hq2
  · rw [if_neg h1]
    have hP := ps_hid (rb := rb) ⟨#[40]⟩ h.1 hs' false (head_ne h1)
    by_cases h2 : q.head? = some 91
    · rw [if_pos h2]
      obtain ⟨r, rfl⟩ : ∃ r, q = 91 :: r := by
        cases q with
        | nil => simp at h2
        | cons c r => simp at h2; exact ⟨r, by rw [h2]⟩
      have hA := ah_hid (rb := rb) ⟨#[91]⟩ h.1 true rfl
      have hcl := fun w hg => class_any5 (rb := rb) (r := r) (w := w) ⟨h.1, hg⟩ hs
      have hsuf := csl_suf h.1 hs
      cases hc : csl (91 :: r) with
      | error t =>
        rw [hc] at hcl hsuf
        exact (atom_Be (n2 := s.size - t.length) h.2 hP hA (Lib.hid fun w hg => (hcl w hg).mono fun e w' k => ⟨k.1, k.2.gk⟩)).mono fun e w' k => ⟨k.1, .of hsuf k.2⟩
      | ok v =>
        obtain ⟨x, t⟩ := v
        rw [hc] at hcl hsuf
        obtain ⟨hsuf, rfl⟩ := hsuf
        exact (atom_B (n2 := s.size - t.length) (csu (91 :: r) t) h.2 hP hA (Lib.hid fun w hg => (hcl w hg).mono fun e w' k => ⟨k.1, k.2.gk⟩)).mono fun e w' k => TreeP.set hsuf k
    · rw [if_neg h2]
      have hA := ah_hid (rb := rb) ⟨#[91]⟩ h.1 false (head_ne h2)
      by_cases h3 : q.head? = some 46
      · rw [if_pos h3]
        have hP2 := ps_hid (rb := rb) ⟨#[46]⟩ h.1 hs' true (head_eq h3)
        have hsuf : Suf s q.tail := by
          cases q with
          | nil => exact h.1
          | cons c r => exact h.1.tl
        exact (atom_C (wf inlF) h.2 hP hA hP2 (Lib.hid inLine_any)).mono fun e w' k => TreeP.set hsuf k
      · rw [if_neg h3]
        have hP2 := ps_hid (rb := rb) ⟨#[46]⟩ h.1 hs' false (head_ne h3)
        have hsg := fun w hg => single_any (rb := rb) (q := q) (w := w) ⟨h.1, hg⟩ hs'
        have hsuf := sgl_suf h.1
        cases hc : sgl q with
        | error t =>
          rw [hc] at hsg hsuf
          exact (atom_De (n3 := s.size - t.length) h.2 hP hA hP2 (Lib.hid fun w hg => (hsg w hg).mono fun e w' k => ⟨k.1, k.2.gk⟩)).mono fun e w' k => ⟨k.1, .of hsuf k.2⟩
        | ok v =>
          obtain ⟨b, t⟩ := v
          rw [hc] at hsg hsuf
          exact (atom_D (n3 := s.size - t.length) (n4 := 0) b (wf (rangeF b.toNat 1)) h.2 hP hA hP2 (Lib.hid fun w hg => (hsg w hg).mono fun e w' k => ⟨k.1, k.2.gk⟩) (Lib.hid fun w => range1_any b w)).mono fun e w' k => TreeP.set hsuf k
end Go.Proofs.YtmjojahkbjlcdaaDoor
end
section
/- Package regs: the reader's small steps: what comes next. -/
namespace Go.Proofs.YtmjojahkbjlcdaaDoor
set_option linter.unusedSimpArgs false
set_option linter.unusedVariables false
set_option maxRecDepth 100000
open Go.RowKit

def rps : List UInt8 := [42, 43, 63]
/-- The signs behind an atom. -/
def reps : RT → List UInt8 → RT × List UInt8
  | t, [] => (t, [])
  | t, c :: r => if rps.contains c then reps (.mk (5 + Lib.indexByte rps c) u0 [t]) r else (t, c :: r)
def thingF (ch : List UInt8 → Except (List UInt8) (RT × List UInt8)) (l : List UInt8) : Except (List UInt8) (RT × List UInt8) :=
  match atomF ch l with
  | .error q => .error q
  | .ok (t, r) => .ok (reps t r)
theorem reps_stop {t : RT} {q : List UInt8} (h : ahl rps q = false) : reps t q = (t, q) := by
  cases q with
  | nil => rfl
  | cons c r =>
    have h1 : rps.contains c = false := h
    simp only [reps, h1, Bool.false_eq_true, if_false]
theorem rps_lt {c : UInt8} (h : rps.contains c = true) : 0 ≤ Lib.indexByte rps c ∧ Lib.indexByte rps c ≤ 2 := by
  have : c = 42 ∨ c = 43 ∨ c = 63 := by
    simp only [rps, List.contains_cons, List.contains_nil, Bool.or_false, Bool.or_eq_true, beq_iff_eq] at h
    exact h
  rcases this with rfl | rfl | rfl <;> decide
def ATM (rb : Nat) (s : ByteArray) (q : List UInt8) (r : Except (List UInt8) (RT × List UInt8)) : Prop := Hid (∀ w, GA rb s q w → Calls Tryd.prog 98 #[.pointer (some ⟨rb, 0, none⟩)] w (TreeP rb s w r))
set_option maxHeartbeats 4000000 in
theorem thing_e {rb : Nat} {s : ByteArray} {w : World} (q t : List UInt8) (h0 : GA rb s q w) (hC : ATM rb s q (.error t)) :
    Calls Tryd.prog 84 #[.pointer (some ⟨rb, 0, none⟩)] w fun e w' => e = boom ∧ GK rb s t w w' := by
  have HU := Lib.hid (GK.up h0 ((Below.refl _ _).alloc (Nat.le_refl _) (.cells (nodeC 0 u0 (.slice none 0 0)) 27)))
  have hz := zero27r
  clear h0
  go_enter Tryd.func84, Tryd.ntmps84
  go_wp2_with fail
  refine (hC.out _ HU.out.2).mono ?_
  rintro _ w5 ⟨rfl, hk⟩
  have H5 : Hid (GK rb s t w w5) := Lib.hid (HU.out.trans hk)
  clear hk
  unfold boom
  go_wp2
  exact ⟨rfl, rfl, H5.out⟩
set_option maxHeartbeats 4000000 in
theorem thing_o {rb : Nat} {s : ByteArray} {w : World} (hs : s.size ≤ 1000) (q r : List UInt8) (t : RT) (h0 : GA rb s q w) (hC : ATM rb s q (.ok (t, r))) :
    Calls Tryd.prog 84 #[.pointer (some ⟨rb, 0, none⟩)] w (TreeP rb s w (.ok (reps t r))) := by
  have HU := Lib.hid (GK.up h0 ((Below.refl _ _).alloc (Nat.le_refl _) (.cells (nodeC 0 u0 (.slice none 0 0)) 27)))
  have HB2 := Lib.hid (heap_alloc_last w (.cells (nodeC 0 u0 (.slice none 0 0)) 27))
  have hsz : (w.alloc (.cells (nodeC 0 u0 (.slice none 0 0)) 27)).heap.size = w.heap.size + 1 := by simp
  have hrb := h0.2.lt
  have hne : w.heap.size ≠ rb := by omega
  have hz := zero27r
  have HA := Lib.hid fun (q : List UInt8) (hq : Suf s q) => ah_hid (rb := rb) ⟨#[42, 43, 63]⟩ hq (ahl rps q) rfl
  have HN := Lib.hid fun (c : UInt8) (q : List UInt8) (hq : Suf s (c :: q)) => next_hid (rb := rb) hq (by omega : s.size ≤ 9223372036854775806)
  have HI := Lib.hid fun (c : UInt8) (w : World) => (by have := index_any ⟨#[42, 43, 63]⟩ c.toNat w; rwa [toU] at this : Calls Tryd.prog 92 #[.string ⟨#[42, 43, 63]⟩, .int .u8 c.toNat] w fun e w' => e = .returned (.int .i64 (Lib.indexByte rps c)) ∧ w = w')
  obtain ⟨R, hR⟩ : ∃ R, reps t r = R := ⟨_, rfl⟩
  rw [hR]
  have HR := Lib.hid hR
  clear h0 hR
  go_enter Tryd.func84, Tryd.ntmps84
  go_wp2_with fail
  generalize hwA : w.alloc (.cells (nodeC 0 u0 (.slice none 0 0)) 27) = wA at *
  clear hwA
  generalize hb2 : w.heap.size = b2 at *
  refine (hC.out _ HU.out.2).mono ?_
  rintro _ w1 ⟨⟨v, rfl, hRV⟩, hk⟩
  obtain ⟨k, u, p, n, c, rfl⟩ := hRV.form
  have HK1 := Lib.hid hk
  have HRV := Lib.hid hRV
  clear hk hRV
  go_wp2_with (refine wpList_store_row rfl 27 (.tmp 3) (.tmp 6) rfl w1.heap.size (nodeC k u (.slice p n c)) rfl rfl 27 _ (heap_alloc_last w1 _) size27r rfl (nodeC_one _ _ _ _ _) ?_)
  rw [World.setRow_alloc_new]
  have hs1 := HK1.out.1.size
  have S0 : Hid (GK rb s r wA (w1.alloc (.cells (nodeC k u (.slice p n c)) 27))) := Lib.hid (HK1.out.trans (GK.up HK1.out.2 ((Below.refl _ _).alloc (Nat.le_refl _) _)))
  have SB : Hid ((w1.alloc (.cells (nodeC k u (.slice p n c)) 27)).heap[w1.heap.size]? = some (.cells (nodeC k u (.slice p n c)) 27)) := Lib.hid (heap_alloc_last w1 _)
  have SR : Hid (RV (fun b => b2 < b ∧ b < (w1.alloc (.cells (nodeC k u (.slice p n c)) 27)).heap.size ∧ b ≠ w1.heap.size) (w1.alloc (.cells (nodeC k u (.slice p n c)) 27)) t (.agg (nodeC k u (.slice p n c)))) := Lib.hid (by
    refine HRV.out.mono (fun b hb => ?_) (fun b hb hlt => heap_alloc_old w1 _ hlt)
    have : (w1.alloc (.cells (nodeC k u (.slice p n c)) 27)).heap.size = w1.heap.size + 1 := by simp
    rw [this]; omega)
  have SZ : (w1.alloc (.cells (nodeC k u (.slice p n c)) 27)).heap.size = w1.heap.size + 1 := by simp
  generalize hw3 : w1.alloc (.cells (nodeC k u (.slice p n c)) 27) = w3 at *
  clear hw3
  generalize hb3 : w1.heap.size = b3 at *
  clear HRV HK1
  go_wp2_with fail
  (try simp only [Act.put])
  go_loopw [8] (fun _ wr => ∃ t q k u p n c, Hid (reps t q = R) ∧ Hid (GK rb s q wA wr) ∧ Hid (wr.heap[b3]? = some (.cells (nodeC k u (.slice p n c)) 27)) ∧ Hid (RV (fun b => b2 < b ∧ b < wr.heap.size ∧ b ≠ b3) wr t (.agg (nodeC k u (.slice p n c)))) ∧ b3 < wr.heap.size) (fun _ wr => s.size - atR rb wr)
  case atStart => exact ⟨t, r, k, u, p, n, c, HR, S0, SB, SR, by omega⟩
  case round =>
    clear S0 SB SR HR
    obtain ⟨t, q, k, u, p, n, c, HT, HK, HB, HV, hz3⟩ := hrel
    obtain ⟨wo, rfl⟩ : ∃ wo : World, wo = wr := ⟨_, rfl⟩
    have hA := HA.out q HK.out.2.1
    cases hv : ahl rps q with
    | false =>
      rw [hv] at hA
      have hR := reps_stop (t := t) hv
      have hRR : R = (t, q) := by rw [← HT.out, hR]
      subst hRR
      clear HT hR hv
      go_wp2_with fail
      refine (hA.out _ HK.out.2.2).mono ?_
      rintro _ w5 ⟨rfl, hk⟩
      have H5 := Lib.hid hk
      clear hk
      have s5 := H5.out.1.size
      have HX : Hid (w5.heap[b3]? = some (.cells (nodeC k u (.slice p n c)) 27)) := Lib.hid (by rw [H5.out.old hz3 (by omega), HB.out])
      have HY : Hid (w5.heap[b2]? = some (.cells (nodeC 0 u0 (.slice none 0 0)) 27)) := Lib.hid (by
        rw [H5.out.old (by omega) hne, HK.out.gk.old (by omega) hne, HB2.out])
      have HTT : Hid (Gk rb s (s.size - q.length) w w5) := Lib.hid (HU.out.gk.trans (HK.out.gk.trans H5.out))
      have hq := HK.out.2.1
      go_wp2_with (first | (refine wpList_load_row rfl 27 (.tmp 3) rfl b3 rfl 27 _ (0, 0) _ HX.out Tryd.underlying27 rfl size27r ?_) | (refine wpList_store_row rfl 27 (.tmp 2) (.tmp 17) rfl b2 (nodeC k u (.slice p n c)) rfl rfl 27 _ HY.out size27r rfl (nodeC_one _ _ _ _ _) ?_))
      refine bodyPost_ret (v := .agg (nodeC k u (.slice p n c))) (results_cell_row rfl _ _ b2 27 _ (0, 0) _ rfl (setRow_heap w5 b2 _ _ 27 (0, 0) HY.out) Tryd.underlying27 rfl size27r) rfl ⟨⟨_, rfl, ?_⟩, .of hq (Gk.row HTT.out (by omega) hne)⟩
      refine HV.out.mono (fun x hx => ?_) (fun x hx _ => ?_)
      · have h1 : (w5.setRow b2 (nodeC k u (.slice p n c))).heap.size = w5.heap.size := by simp
        rw [h1]; omega
      · rw [setRow_other w5 b2 x _ (by omega)]
        exact H5.out.old (by omega) (by omega)
    | true =>
      rw [hv] at hA
      obtain ⟨d, q', rfl⟩ : ∃ d q', q = d :: q' := by
        cases q with
        | nil => simp [ahl] at hv
        | cons d q' => exact ⟨d, q', rfl⟩
      have hd : rps.contains d = true := hv
      have hI := rps_lt hd
      have hix := HI.out d
      have hN := HN.out d q' HK.out.2.1
      have HT2 : Hid (reps (.mk (5 + Lib.indexByte rps d) u0 [t]) q' = R) := Lib.hid (by rw [← HT.out, reps, if_pos hd])
      clear HT hv hd
      generalize Lib.indexByte rps d = I at *
      have hix2 := Lib.hid hix
      clear hix
      go_wp2_with fail
      refine (hA.out _ HK.out.2.2).mono ?_
      rintro _ w5 ⟨rfl, hk⟩
      have H5 := Lib.hid hk
      clear hk
      go_wp2_with fail
      refine (hN.out _ H5.out.2).mono ?_
      rintro _ w6 ⟨rfl, hk⟩
      have H6 := Lib.hid (H5.out.trans hk)
      clear hk
      go_wp2_with fail
      refine (hix2.out _).mono ?_
      rintro _ w7 ⟨rfl, rfl⟩
      have s6 := H6.out.1.size
      have HX : Hid (w6.heap[b3]? = some (.cells #[.int .i64 k, .int .u64 (u 0), .int .u64 (u 1), .int .u64 (u 2), .int .u64 (u 3), .slice p n c] 27)) := Lib.hid (by rw [H6.out.old hz3 (by omega), HB.out]; rfl)
      go_wp2_with (first | (refine wpList_load_row rfl 27 (.tmp 3) rfl b3 rfl 27 _ (0, 0) _ HX.out Tryd.underlying27 rfl size27r ?_) | (refine wpList_store_row rfl 27 (.tmp 3) (.tmp 16) rfl b3 (nodeC (5 + I) u0 (.slice (some ⟨w6.heap.size, 0, none⟩) 1 1)) rfl rfl 27 _ ((heap_alloc_old w6 _ (by omega)).trans HX.out) size27r rfl (nodeC_one _ _ _ _ _) ?_))
      (try simp only [Act.put])
      have hrow := (heap_alloc_old w6 (.cells #[.int .i64 k, .int .u64 (u 0), .int .u64 (u 1), .int .u64 (u 2), .int .u64 (u 3), .slice p n c] 27) (show b3 < w6.heap.size by omega)).trans HX.out
      have hlast := heap_alloc_last w6 (.cells #[.int .i64 k, .int .u64 (u 0), .int .u64 (u 1), .int .u64 (u 2), .int .u64 (u 3), .slice p n c] 27)
      have hG6 : Gk rb s (s.size - q'.length) wA (w6.alloc (.cells #[.int .i64 k, .int .u64 (u 0), .int .u64 (u 1), .int .u64 (u 2), .int .u64 (u 3), .slice p n c] 27)) := (HK.out.gk.trans H6.out).trans (Gk.up H6.out.2 ((Below.refl _ _).alloc (Nat.le_refl _) _))
      have hsz9 : (w6.alloc (.cells #[.int .i64 k, .int .u64 (u 0), .int .u64 (u 1), .int .u64 (u 2), .int .u64 (u 3), .slice p n c] 27)).heap.size = w6.heap.size + 1 := by simp
      have hkeep : ∀ x, b2 < x → x < wo.heap.size → (w6.alloc (.cells #[.int .i64 k, .int .u64 (u 0), .int .u64 (u 1), .int .u64 (u 2), .int .u64 (u 3), .slice p n c] 27)).heap[x]? = wo.heap[x]? := fun x h1 h2 => by
        rw [heap_alloc_old w6 _ (show x < w6.heap.size by omega), H6.out.old h2 (by omega)]
      have hq' : Suf s q' := HK.out.2.1.tl
      have hw6 : b3 < w6.heap.size := by omega
      have hwo : s.size - atR rb wo = (d :: q').length := by
        rw [HK.out.2.2.at]
        have := HK.out.2.1.len; omega
      generalize hwB : w6.alloc (.cells #[.int .i64 k, .int .u64 (u 0), .int .u64 (u 1), .int .u64 (u 2), .int .u64 (u 3), .slice p n c] 27) = wB at *
      clear hwB
      have hG9 := Gk.row (b := b3) (cs := nodeC (5 + I) u0 (.slice (some ⟨w6.heap.size, 0, none⟩) 1 1)) hG6 (by omega) (by omega)
      have hs9 : (wB.setRow b3 (nodeC (5 + I) u0 (.slice (some ⟨w6.heap.size, 0, none⟩) 1 1))).heap.size = wB.heap.size := by simp
      have hHB := setRow_heap wB b3 _ (nodeC (5 + I) u0 (.slice (some ⟨w6.heap.size, 0, none⟩) 1 1)) 27 (0, 0) hrow
      have hHL := (setRow_other wB b3 w6.heap.size (nodeC (5 + I) u0 (.slice (some ⟨w6.heap.size, 0, none⟩) 1 1)) (by omega)).trans hlast
      have hK9 : ∀ x, b2 < x → x < wo.heap.size → x ≠ b3 → (wB.setRow b3 (nodeC (5 + I) u0 (.slice (some ⟨w6.heap.size, 0, none⟩) 1 1))).heap[x]? = wo.heap[x]? := fun x h1 h2 h3 => (setRow_other wB b3 x _ h3).trans (hkeep x h1 h2)
      generalize wB.setRow b3 (nodeC (5 + I) u0 (.slice (some ⟨w6.heap.size, 0, none⟩) 1 1)) = w9 at *
      have hV9 : RV (fun b => b2 < b ∧ b < w9.heap.size ∧ b ≠ b3) w9 (.mk (5 + I) u0 [t]) (.agg (nodeC (5 + I) u0 (.slice (some ⟨w6.heap.size, 0, none⟩) 1 1))) := by
        refine RV.node (5 + I) u0 [t] w6.heap.size 0 1 (fun _ => nodeC k u (.slice p n c)) ⟨by omega, by omega, by omega⟩ (by simp) (fun i hi => ?_) (fun i hi j hj => ?_) (fun j => by unfold World.frozen?; simp [hHL])
        · have h0 : i = 0 := by simp at hi; omega
          subst h0
          exact HV.out.mono (fun x hx => ⟨hx.1, by omega, hx.2.2⟩) (fun x hx hlt => hK9 x hx.1 hlt hx.2.2)
        · have h0 : i = 0 := by simp at hi; omega
          subst h0
          refine ⟨(nodeC k u (.slice p n c))[j]'hj, Array.getElem?_eq_getElem (show j < (nodeC k u (.slice p n c)).size from hj), ?_⟩
          have e : 0 + (6 * 0 + j) = j := by omega
          rw [e, cell_of_row w9 w6.heap.size j _ 27 (0, 0) hHL]
          exact Array.getElem?_eq_getElem (show j < (nodeC k u (.slice p n c)).size from hj)
      have HV9 := Lib.hid hV9
      have HHB := Lib.hid hHB
      have HG9 : Hid (GK rb s q' wA w9) := Lib.hid (.of hq' hG9)
      have hm : s.size - atR rb w9 < s.size - atR rb wo := by
        rw [hwo, HG9.out.2.2.at]
        have := hq'.len
        simp only [List.length_cons]; omega
      clear hV9 hHB hG9 hHL hK9 hkeep hrow hlast hG6
      go_roundw
      case rel => exact ⟨.mk (5 + I) u0 [t], q', 5 + I, u0, some ⟨w6.heap.size, 0, none⟩, 1, 1, HT2, HG9, HHB, HV9, by omega⟩
      case measure => exact hm
theorem thing_any {rb : Nat} {s : ByteArray} {q : List UInt8} {w : World} (ch : List UInt8 → Except (List UInt8) (RT × List UInt8)) (h : GA rb s q w) (hs : s.size ≤ 1000) (hch : ∀ q', q'.length < q.length → Suf s q' → CHO rb s q' (ch q')) :
    Calls Tryd.prog 84 #[.pointer (some ⟨rb, 0, none⟩)] w (TreeP rb s w (thingF ch q)) := by
  have hA : ATM rb s q (atomF ch q) := Lib.hid fun w hg => atom_any ch hg hs hch
  unfold thingF
  cases hc : atomF ch q with
  | error t => rw [hc] at hA; exact (thing_e q t h hA).mono fun e w' k => k
  | ok v =>
    obtain ⟨t, r⟩ := v
    rw [hc] at hA
    exact thing_o hs q r t h hA
end Go.Proofs.YtmjojahkbjlcdaaDoor
end
section
/- Package regs: the reader's small steps: what comes next. -/
namespace Go.Proofs.YtmjojahkbjlcdaaDoor
set_option linter.unusedSimpArgs false
set_option linter.unusedVariables false
set_option maxRecDepth 100000
open Go.RowKit

theorem dummy : True := trivial
def flat (xs : List (Array Value)) : List Value := xs.flatMap Array.toList
theorem flat_len : ∀ (xs : List (Array Value)), (∀ x ∈ xs, x.size = 6) → (flat xs).length = xs.length * 6
  | [], _ => rfl
  | x :: xs, h => by
    have h1 := flat_len xs fun y hy => h y (List.mem_cons_of_mem _ hy)
    have h2 := h x (List.mem_cons_self ..)
    show (x.toList ++ flat xs).length = _
    rw [List.length_append, h1, Array.length_toList, h2, List.length_cons]; omega
theorem flat_get : ∀ (xs : List (Array Value)), (∀ x ∈ xs, x.size = 6) → ∀ i (h : i < xs.length) j, j < 6 → (flat xs)[6 * i + j]? = (xs[i])[j]?
  | [], _, i, h, j, hj => by simp at h
  | x :: xs, h, 0, hi, j, hj => by
    have h2 := h x (List.mem_cons_self ..)
    show (x.toList ++ flat xs)[6 * 0 + j]? = _
    rw [List.getElem?_append_left (by simp [h2]; omega)]
    simp
  | x :: xs, h, i + 1, hi, j, hj => by
    have h1 := flat_get xs (fun y hy => h y (List.mem_cons_of_mem _ hy)) i (by simpa using hi) j hj
    have h2 := h x (List.mem_cons_self ..)
    show (x.toList ++ flat xs)[6 * (i + 1) + j]? = _
    rw [List.getElem?_append_right (by simp [h2]; omega), Array.length_toList, h2, show 6 * (i + 1) + j - 6 = 6 * i + j by omega, h1]
    simp
/-- The patterns ts lie in the row of the slice sl. -/
def Th (base : Nat) (ts : List RT) (sl : Value) (w : World) : Prop :=
  ∃ xs : List (Array Value), xs.length = ts.length ∧ (∀ x ∈ xs, x.size = 6) ∧ (∀ i (h : i < ts.length) (h' : i < xs.length), RV (fun b => base ≤ b ∧ b < w.heap.size ∧ some b ≠ sl.ownBlock) w ts[i] (.agg xs[i])) ∧ w.ownsRow base 27 6 sl ts.length (flat xs)
theorem Th.nil (base : Nat) (w : World) : Th base [] (.slice none 0 0) w := ⟨[], rfl, by simp, by simp, rfl, .inl ⟨rfl, rfl⟩⟩
theorem Th.keep {base : Nat} {ts : List RT} {sl : Value} {w w' : World} {row : Option Nat} (h : Th base ts sl w) (hg : w.grownBy w' row) (hr : ∀ b, row = some b → b < base) : Th base ts sl w' := by
  obtain ⟨xs, h1, h2, h3, h4⟩ := h
  refine ⟨xs, h1, h2, fun i hi hi' => (h3 i hi hi').mono (fun b hb => ⟨hb.1, Nat.lt_of_lt_of_le hb.2.1 hg.size, hb.2.2⟩) (fun b hb hlt => hg.block b hlt (fun e => by have := hr b e.symm; omega)), ?_⟩
  refine World.ownsRow.kept h4 hg ?_
  rcases h4.2 with ⟨rfl, _⟩ | ⟨g, cap, cur, rfl, hb, _⟩
  · simp [Value.ownBlock]
  · right
    intro hh
    have := hr g (by simpa [Value.ownBlock] using hh.symm)
    omega
theorem flat_app (xs : List (Array Value)) (x : Array Value) : flat (xs ++ [x]) = flat xs ++ x.toList := by simp [flat]
theorem Th.app {base lo : Nat} {ts : List RT} {sl sl' : Value} {w w1 w2 : World} {t : RT} {x : Array Value} {xs : List (Array Value)} {o : Obj} (hx6 : x.size = 6)
    (h1 : xs.length = ts.length) (h2 : ∀ x ∈ xs, x.size = 6) (h3 : ∀ i (h : i < ts.length) (h' : i < xs.length), RV (fun b => base ≤ b ∧ b < w.heap.size ∧ some b ≠ sl.ownBlock) w ts[i] (.agg xs[i]))
    (hw1 : w1 = w.alloc o) (hbl : base ≤ lo) (hlo : ∀ g, sl.ownBlock = some g → g < lo) (ht : RV (fun b => lo ≤ b ∧ b < w.heap.size) w t (.agg x))
    (hown : w2.ownsRow base 27 6 sl' (ts.length + 1) (flat xs ++ x.toList)) (hg : w1.grownBy w2 sl.ownBlock) (hat : sl'.ownBlock = sl.ownBlock ∨ sl'.ownBlock = some w1.heap.size) : Th base (ts ++ [t]) sl' w2 := by
  have hsz : w1.heap.size = w.heap.size + 1 := by subst hw1; simp
  have hkeep : ∀ b, b < w.heap.size → some b ≠ sl.ownBlock → w2.heap[b]? = w.heap[b]? := fun b hb hne => by
    rw [hg.block b (by omega) (fun e => hne e), hw1, heap_alloc_old w _ hb]
  have hD : ∀ b, b < w.heap.size → some b ≠ sl.ownBlock → some b ≠ sl'.ownBlock := fun b hb hne e => by
    rcases hat with h | h
    · rw [h] at e; exact hne e
    · rw [h] at e; cases e; omega
  refine ⟨xs ++ [x], by simp [h1], fun y hy => ?_, fun i hi hi' => ?_, by rw [flat_app]; simpa using hown⟩
  · rcases List.mem_append.1 hy with hy | hy
    · exact h2 y hy
    · simp at hy; subst hy; exact hx6
  · by_cases hlt : i < ts.length
    · rw [List.getElem_append_left hlt, List.getElem_append_left (by omega)]
      exact (h3 i hlt (by omega)).mono (fun b hb => ⟨hb.1, by have := hg.size; omega, hD b hb.2.1 hb.2.2⟩) (fun b hb hlt => hkeep b hlt hb.2.2)
    · have hi2 : i = ts.length := by simp at hi; omega
      subst hi2
      have e1 : (ts ++ [t])[ts.length]'hi = t := by simp
      have e2 : (xs ++ [x])[ts.length]'hi' = x := by
        rw [List.getElem_append_right (by omega)]; simp [h1]
      rw [e1, e2]
      have hno : ∀ b, lo ≤ b → some b ≠ sl.ownBlock := fun b hb e => by have := hlo b e.symm; omega
      exact ht.mono (fun b hb => ⟨by omega, by have := hg.size; omega, hD b hb.2 (hno b hb.1)⟩) (fun b hb hlt => hkeep b hlt (hno b hb.1))
theorem Th.node {base : Nat} {ts : List RT} {sl : Value} {w : World} (h : Th base ts sl w) (hn : ts ≠ []) (k : Int) (u : Nat → Int) :
    ∃ g cap, sl = .slice (some ⟨g, 0, none⟩) ts.length cap ∧ base ≤ g ∧ g < w.heap.size ∧ RV (fun b => base ≤ b ∧ b < w.heap.size) w (.mk k u ts) (.agg (nodeC k u sl)) := by
  obtain ⟨xs, h1, h2, h3, h4⟩ := h
  have hown := h4
  rcases h4.2 with ⟨_, h0⟩ | ⟨g, cap, cur, rfl, hb, hg, _⟩
  · exact absurd (List.length_eq_zero_iff.1 h0) hn
  · have hgs := (Array.getElem?_eq_some_iff.1 hg).1
    refine ⟨g, cap, rfl, hb, hgs, RV.node k u ts g 0 cap (fun i => xs.getD i #[]) ⟨hb, hgs⟩ hn (fun i hi => ?_) (fun i hi j hj => ?_) (fun j => by unfold World.frozen?; simp [hg])⟩
    · have hi' : i < xs.length := by omega
      have e : xs.getD i #[] = xs[i] := by simp [List.getD, hi']
      rw [e]
      exact (h3 i hi hi').mono (fun b hb => ⟨hb.1, hb.2.1⟩) (fun b hb hlt => rfl)
    · have hi' : i < xs.length := by omega
      have e : xs.getD i #[] = xs[i] := by simp [List.getD, hi']
      have h6 := h2 xs[i] (List.getElem_mem hi')
      have hf := flat_get xs h2 i hi' j hj
      have hj' : j < (xs[i]).size := by omega
      rw [Array.getElem?_eq_getElem hj'] at hf
      refine ⟨(xs[i])[j], by rw [e]; exact Array.getElem?_eq_getElem hj', ?_⟩
      have := World.ownsRow.cells hown rfl _ _ hf
      rwa [Addr.add_mid] at this
theorem Th.one {base : Nat} {t : RT} {sl : Value} {w : World} (h : Th base [t] sl w) : ∃ g cap k u p n c, sl = .slice (some ⟨g, 0, none⟩) 1 cap ∧ base ≤ g ∧ g < w.heap.size ∧ RV (fun b => base ≤ b ∧ b < w.heap.size) w t (.agg (nodeC k u (.slice p n c))) ∧
    (∀ j y, (nodeC k u (.slice p n c))[j]? = some y → w.cell? ⟨g, j, none⟩ = some y) := by
  obtain ⟨g, cap, rfl, h2, h3, h4⟩ := h.node (by simp) 0 u0
  cases h4 with
  | node k u ps b o c xs hD hn hx hc =>
    obtain ⟨k, u, p, n, c', hf⟩ := (hx 0 (by simp)).form
    have hxs : xs 0 = nodeC k u (.slice p n c') := by injection hf
    refine ⟨g, cap, k, u, p, n, c', rfl, h2, h3, hxs ▸ hx 0 (by simp), fun j y hy => ?_⟩
    have hj : j < 6 := (Array.getElem?_eq_some_iff.1 hy).1
    obtain ⟨y', h5, h6⟩ := hc 0 (by simp) j hj
    rw [hxs, hy] at h5
    cases h5
    simpa using h6
def joinT (k : Int) (ts : List RT) : RT := match ts with
  | [t] => t
  | ts => .mk k u0 ts
set_option maxHeartbeats 4000000 in
theorem joined_1 {base : Nat} {t : RT} {sl : Value} {w : World} (kd : Int) (h : Th base [t] sl w) :
    Calls Tryd.prog 67 #[.int .i64 kd, sl] w fun e w' => (∃ v, e = .returned v ∧ RV (fun b => base ≤ b ∧ b < w'.heap.size) w' t v) ∧ Below w.heap.size w w' := by
  obtain ⟨g, cap, k, u, p, n, c, rfl, h2, h3, h4, h5⟩ := h.one
  have d0 : w.cell? ⟨g, 0, none⟩ = some (.int .i64 k) := h5 0 _ rfl
  have d1 : w.cell? ⟨g, 1, none⟩ = some (.int .u64 (u 0)) := h5 1 _ rfl
  have d2 : w.cell? ⟨g, 2, none⟩ = some (.int .u64 (u 1)) := h5 2 _ rfl
  have d3 : w.cell? ⟨g, 3, none⟩ = some (.int .u64 (u 2)) := h5 3 _ rfl
  have d4 : w.cell? ⟨g, 4, none⟩ = some (.int .u64 (u 3)) := h5 4 _ rfl
  have d5 : w.cell? ⟨g, 5, none⟩ = some (.slice p n c) := h5 5 _ rfl
  have HV := Lib.hid h4
  clear h h4 h5
  go_enter Tryd.func67, Tryd.ntmps67
  go_wp2
  refine bodyPost_ret (v := .agg (nodeC k u (.slice p n c))) (results_cell_row rfl _ _ w.heap.size 27 (nodeC k u (.slice p n c)) (0, 0) _ rfl (heap_alloc_last w _) Tryd.underlying27 rfl size27r) rfl ⟨⟨_, rfl, HV.out.mono (fun b hb => ⟨hb.1, ?_⟩) (fun b hb hlt => heap_alloc_old w _ hlt)⟩, (Below.refl _ _).alloc (Nat.le_refl _) _⟩
  simp; omega
set_option maxHeartbeats 4000000 in
theorem joined_n {base : Nat} {ts : List RT} {sl : Value} {w : World} (kd : Int) (h : Th base ts sl w) (hn : 2 ≤ ts.length) :
    Calls Tryd.prog 67 #[.int .i64 kd, sl] w fun e w' => (∃ v, e = .returned v ∧ RV (fun b => base ≤ b ∧ b < w'.heap.size) w' (.mk kd u0 ts) v) ∧ Below w.heap.size w w' := by
  obtain ⟨g, cap, rfl, h2, h3, h4⟩ := h.node (by intro e; subst e; simp at hn) kd u0
  have HV := Lib.hid h4
  clear h h4
  have hne : ((ts.length : Int) == 1) = false := by rw [beq_eq_false_iff_ne]; omega
  have hne2 : decide (ts.length = 1) = false := by simp; omega
  have hne3 : (ts.length == 1) = false := by rw [beq_eq_false_iff_ne]; omega
  generalize hm : ts.length = m at *
  have HM := Lib.hid hm
  clear hm hn
  go_enter Tryd.func67, Tryd.ntmps67
  go_wp2
  refine bodyPost_ret (v := .agg (nodeC kd u0 (.slice (some ⟨g, 0, none⟩) m cap))) (results_cell_row rfl _ _ w.heap.size 27 (nodeC kd u0 (.slice (some ⟨g, 0, none⟩) m cap)) (0, 0) _ rfl (heap_alloc_last w _) Tryd.underlying27 rfl size27r) rfl ⟨⟨_, rfl, HV.out.mono (fun b hb => ⟨hb.1, ?_⟩) (fun b hb hlt => heap_alloc_old w _ hlt)⟩, (Below.refl _ _).alloc (Nat.le_refl _) _⟩
  simp; omega
theorem joined_any {base : Nat} {ts : List RT} {sl : Value} {w : World} (kd : Int) (h : Th base ts sl w) (hn : ts ≠ []) :
    Calls Tryd.prog 67 #[.int .i64 kd, sl] w fun e w' => (∃ v, e = .returned v ∧ RV (fun b => base ≤ b ∧ b < w'.heap.size) w' (joinT kd ts) v) ∧ Below w.heap.size w w' := by
  match ts, h, hn with
  | [], _, hn => exact absurd rfl hn
  | [t], h, _ => exact joined_1 kd h
  | a :: b :: ts, h, _ => exact joined_n kd h (by simp)
end Go.Proofs.YtmjojahkbjlcdaaDoor
end
