/- Texts of package regs, one behind the other. -/
import Derived.Test.YtmjojahkbjlcdaaDoorProg
import Derived.Test.YtmjojahkbjlcdaaDoorX3
import Derived.Test.YtmjojahkbjlcdaaDoorX5
import Derived.WalkKit
import Derived.WalkLawsBesides
import Derived.WalkSpells
import Derived.Outline
import Derived.Lib.Walk
import Derived.Lib.Hide
import Derived.RegionTactic
import Derived.LoopTactic
import Derived.Below
import Derived.IntWalk
import Derived.Deep.QuietTactic
import Derived.BigQuiet
import Derived.Test.YtmjojahkbjlcdaaDoorX14
section
/- Package regs: the reader's small steps: what comes next. -/
namespace Go.Proofs.YtmjojahkbjlcdaaDoor
set_option linter.unusedSimpArgs false
set_option linter.unusedVariables false
set_option maxRecDepth 100000
open Go.RowKit

theorem ah_hid {rb : Nat} {s : ByteArray} {q : List UInt8} (B : ByteArray) (h : Suf s q) (v : Bool) (hv : ahl B.data.toList q = v) : AH rb B s (s.size - q.length) v :=
  Lib.hid fun w hg => by subst hv; exact (ahead_any (q := q) B ⟨h, hg⟩).mono fun e w' k => ⟨k.1, k.2.gk⟩
theorem TreeP.set {rb : Nat} {s : ByteArray} {w w' : World} {u : Nat → Int} {q : List UInt8} {e : Ending} (hs : Suf s q) (h : e = .returned (.agg (nodeC 2 u (.slice none 0 0))) ∧ Gk rb s (s.size - q.length) w w') : TreeP rb s w (.ok (setT u, q)) e w' :=
  ⟨⟨_, h.1, RV.leaf 2 u none 0⟩, .of hs h.2⟩
theorem head_ne {q : List UInt8} {c : UInt8} (h : ¬ q.head? = some c) : ahl (⟨#[c]⟩ : ByteArray).data.toList q = false := by rw [ahl_one]; simp [h]
theorem head_eq {q : List UInt8} {c : UInt8} (h : q.head? = some c) : ahl (⟨#[c]⟩ : ByteArray).data.toList q = true := by rw [ahl_one]; simp [h]
theorem wtn_suf {s : ByteArray} {l : List UInt8} (h : Suf s l) (hs : s.size ≤ 1000) : match wtn l with | .error r => Suf s r | .ok (_, r) => Suf s r := by
  have := wr_hid (rb := 0) h (by omega : s.size ≤ 9223372036854775806)
  cases hw : wtn l with
  | error r => rw [hw] at this; exact this.1
  | ok v => rw [hw] at this; exact this.1
theorem itl_suf {s : ByteArray} {l : List UInt8} (h : Suf s l) (hs : s.size ≤ 1000) : match itl l with | .error r => Suf s r | .ok (_, r) => Suf s r := by
  have h1 := wtn_suf h hs
  unfold itl
  cases hw : wtn l with
  | error r => rw [hw] at h1; exact h1
  | ok v =>
    obtain ⟨⟨a, x⟩, r⟩ := v
    rw [hw] at h1
    cases r with
    | nil => exact h1
    | cons c r2 =>
      by_cases hc : c = 45
      · subst hc
        simp only [if_true]
        have h2 := wtn_suf h1.tl hs
        cases hw2 : wtn r2 with
        | error t => rw [hw2] at h2; exact h2
        | ok v2 =>
          obtain ⟨⟨b, y⟩, t⟩ := v2
          rw [hw2] at h2
          by_cases hxy : x ≤ y
          · simp only [hxy, if_true]; exact h2
          · simp only [hxy, if_false]
            refine Suf.drop (p := b.take (b.length - 1)) ?_
            rw [← List.append_assoc, List.take_append_drop, ← (wtn_ok hw2).2]; exact Suf.tl h1
      · simp only [hc, if_false]; exact h1
theorem cl_suf {s : ByteArray} (hs : s.size ≤ 1000) : ∀ (k : Nat) {l : List UInt8}, Suf s l → match cl k l with | .error r => Suf s r | .ok (_, r) => Suf s r
  | 0, l, h => h
  | k + 1, l, h => by
    rw [cl]
    by_cases hh : l.head? = some 93
    · rw [if_pos hh]
      cases l with
      | nil => exact h
      | cons c r => exact h.tl
    · rw [if_neg hh]
      have h1 := itl_suf h hs
      cases hi : itl l with
      | error q => rw [hi] at h1; exact h1
      | ok v => obtain ⟨⟨⟩, r⟩ := v; rw [hi] at h1; exact cl_suf hs k h1
theorem csl_suf {s : ByteArray} {l : List UInt8} (h : Suf s l) (hs : s.size ≤ 1000) : match csl l with | .error r => Suf s r | .ok (x, r) => Suf s r ∧ x = vv (csu l r) := by
  unfold csl
  have h1 : Suf s (hat l.tail) := by
    have h0 : Suf s l.tail := by
      cases l with
      | nil => exact h
      | cons c r => exact h.tl
    unfold hat; split
    · cases hl : l.tail with
      | nil => rw [hl] at h0; exact h0
      | cons c r => rw [hl] at h0; exact h0.tl
    · exact h0
  have h2 := cl_suf hs ((hat l.tail).length + 1) h1
  cases hc : cl ((hat l.tail).length + 1) (hat l.tail) with
  | error t => rw [hc] at h2; exact h2
  | ok v => obtain ⟨⟨⟩, t⟩ := v; rw [hc] at h2; exact ⟨h2, setO_uO _⟩
theorem sgl_suf {s : ByteArray} {l : List UInt8} (h : Suf s l) : match sgl l with | .error r => Suf s r | .ok (_, r) => Suf s r := by
  cases l with
  | nil => exact h
  | cons c r =>
    by_cases hc : c = 92
    · subst hc
      cases r with
      | nil => exact h.tl
      | cons d q =>
        simp only [sgl]
        cases hl : ltr d with
        | some x => exact h.tl.tl
        | none =>
          simp only []
          split
          · rename_i heq; split at heq <;> cases heq; exact h.tl
          · rename_i heq; split at heq <;> cases heq; exact h.tl.tl
    · have e0 : sgl (c :: r) = if sgs.contains c then .error (c :: r) else .ok (c, r) := by
        unfold sgl; split <;> simp_all
      rw [e0]
      split
      · rename_i heq; split at heq <;> cases heq; exact h
      · rename_i heq; split at heq <;> cases heq; exact h.tl
theorem atom_any {rb : Nat} {s : ByteArray} {q : List UInt8} {w : World} (ch : List UInt8 → Except (List UInt8) (RT × List UInt8)) (h : GA rb s q w) (hs : s.size ≤ 1000) (hch : ∀ q', q'.length < q.length → Suf s q' → CHO rb s q' (ch q')) :
    Calls Tryd.prog 98 #[.pointer (some ⟨rb, 0, none⟩)] w (TreeP rb s w (atomF ch q)) := by
  have hs' : s.size ≤ 9223372036854775806 := by omega
  unfold atomF
  by_cases h1 : q.head? = some 40
  · rw [if_pos h1]
    obtain ⟨r, rfl⟩ : ∃ r, q = 40 :: r := by
      cases q with
      | nil => simp at h1
      | cons c r => simp at h1; exact ⟨r, by rw [h1]⟩
    have hP := ps_hid (rb := rb) ⟨#[40]⟩ h.1 hs' true rfl
    have hC := hch r (by simp) h.1.tl
    simp only [List.tail_cons]
    cases hc : ch r with
    | error t => rw [hc] at hC; exact (atom_Ae r t h.1.tl h.2 hP hC).mono fun e w' k => k
    | ok v =>
      obtain ⟨t, q2⟩ := v
      rw [hc] at hC
      have hq2 : Suf s q2 ∨ ¬ Suf s q2 := Classical.em _
      rcases hq2 with hq2 | hq2
      · cases q2 with
        | nil => exact (atom_An r [] t h.1.tl h.2 hP hC (next_hid0 hs' hq2)).mono fun e w' k => ⟨k.1, .of hq2 k.2⟩
        | cons c q3 => exact (atom_A c r (c :: q3) t h.1.tl h.2 hP hC (next_hid hq2 hs')).mono fun e w' k => ⟨k.1, .of hq2.tl k.2⟩
      · have hbad : CHO rb s r (.error q2) := Lib.hid fun w hg => (hC.out w hg).mono fun e w' k => absurd k.2.2.1 hq2
        cases q2 with
        | nil => exact (atom_Ae r [] h.1.tl h.2 hP hbad).mono fun e w' k => absurd k.2.2.1 hq2
        | cons c q3 => exact (atom_Ae r (c :: q3) h.1.tl h.2 hP hbad).mono fun e w' k => absurd k.2.2.1 hq2
  · rw [if_neg h1]
    have hP := ps_hid (rb := rb) ⟨#[40]⟩ h.1 hs' false (head_ne h1)
    by_cases h2 : q.head? = some 91
    · rw [if_pos h2]
      obtain ⟨r, rfl⟩ : ∃ r, q = 91 :: r := by
        cases q with
        | nil => simp at h2
        | cons c r => simp at h2; exact ⟨r, by rw [h2]⟩
      have hA := ah_hid (rb := rb) ⟨#[91]⟩ h.1 true rfl
      have hcl := fun w hg => class_any5 (rb := rb) (r := r) (w := w) ⟨h.1, hg⟩ hs
      have hsuf := csl_suf h.1 hs
      cases hc : csl (91 :: r) with
      | error t =>
        rw [hc] at hcl hsuf
        exact (atom_Be (n2 := s.size - t.length) h.2 hP hA (Lib.hid fun w hg => (hcl w hg).mono fun e w' k => ⟨k.1, k.2.gk⟩)).mono fun e w' k => ⟨k.1, .of hsuf k.2⟩
      | ok v =>
        obtain ⟨x, t⟩ := v
        rw [hc] at hcl hsuf
        obtain ⟨hsuf, rfl⟩ := hsuf
        exact (atom_B (n2 := s.size - t.length) (csu (91 :: r) t) h.2 hP hA (Lib.hid fun w hg => (hcl w hg).mono fun e w' k => ⟨k.1, k.2.gk⟩)).mono fun e w' k => TreeP.set hsuf k
    · rw [if_neg h2]
      have hA := ah_hid (rb := rb) ⟨#[91]⟩ h.1 false (head_ne h2)
      by_cases h3 : q.head? = some 46
      · rw [if_pos h3]
        have hP2 := ps_hid (rb := rb) ⟨#[46]⟩ h.1 hs' true (head_eq h3)
        have hsuf : Suf s q.tail := by
          cases q with
          | nil => exact h.1
          | cons c r => exact h.1.tl
        exact (atom_C (wf inlF) h.2 hP hA hP2 (Lib.hid inLine_any)).mono fun e w' k => TreeP.set hsuf k
      · rw [if_neg h3]
        have hP2 := ps_hid (rb := rb) ⟨#[46]⟩ h.1 hs' false (head_ne h3)
        have hsg := fun w hg => single_any (rb := rb) (q := q) (w := w) ⟨h.1, hg⟩ hs'
        have hsuf := sgl_suf h.1
        cases hc : sgl q with
        | error t =>
          rw [hc] at hsg hsuf
          exact (atom_De (n3 := s.size - t.length) h.2 hP hA hP2 (Lib.hid fun w hg => (hsg w hg).mono fun e w' k => ⟨k.1, k.2.gk⟩)).mono fun e w' k => ⟨k.1, .of hsuf k.2⟩
        | ok v =>
          obtain ⟨b, t⟩ := v
          rw [hc] at hsg hsuf
          exact (atom_D (n3 := s.size - t.length) (n4 := 0) b (wf (rangeF b.toNat 1)) h.2 hP hA hP2 (Lib.hid fun w hg => (hsg w hg).mono fun e w' k => ⟨k.1, k.2.gk⟩) (Lib.hid fun w => range1_any b w)).mono fun e w' k => TreeP.set hsuf k
end Go.Proofs.YtmjojahkbjlcdaaDoor
end
section
/- Package regs: the reader's small steps: what comes next. -/
namespace Go.Proofs.YtmjojahkbjlcdaaDoor
set_option linter.unusedSimpArgs false
set_option linter.unusedVariables false
set_option maxRecDepth 100000
open Go.RowKit

def rps : List UInt8 := [42, 43, 63]
/-- The signs behind an atom. -/
def reps : RT → List UInt8 → RT × List UInt8
  | t, [] => (t, [])
  | t, c :: r => if rps.contains c then reps (.mk (5 + Lib.indexByte rps c) u0 [t]) r else (t, c :: r)
def thingF (ch : List UInt8 → Except (List UInt8) (RT × List UInt8)) (l : List UInt8) : Except (List UInt8) (RT × List UInt8) :=
  match atomF ch l with
  | .error q => .error q
  | .ok (t, r) => .ok (reps t r)
theorem reps_stop {t : RT} {q : List UInt8} (h : ahl rps q = false) : reps t q = (t, q) := by
  cases q with
  | nil => rfl
  | cons c r =>
    have h1 : rps.contains c = false := h
    simp only [reps, h1, Bool.false_eq_true, if_false]
theorem rps_lt {c : UInt8} (h : rps.contains c = true) : 0 ≤ Lib.indexByte rps c ∧ Lib.indexByte rps c ≤ 2 := by
  have : c = 42 ∨ c = 43 ∨ c = 63 := by
    simp only [rps, List.contains_cons, List.contains_nil, Bool.or_false, Bool.or_eq_true, beq_iff_eq] at h
    exact h
  rcases this with rfl | rfl | rfl <;> decide
def ATM (rb : Nat) (s : ByteArray) (q : List UInt8) (r : Except (List UInt8) (RT × List UInt8)) : Prop := Hid (∀ w, GA rb s q w → Calls Tryd.prog 98 #[.pointer (some ⟨rb, 0, none⟩)] w (TreeP rb s w r))
set_option maxHeartbeats 4000000 in
theorem thing_e {rb : Nat} {s : ByteArray} {w : World} (q t : List UInt8) (h0 : GA rb s q w) (hC : ATM rb s q (.error t)) :
    Calls Tryd.prog 84 #[.pointer (some ⟨rb, 0, none⟩)] w fun e w' => e = boom ∧ GK rb s t w w' := by
  have HU := Lib.hid (GK.up h0 ((Below.refl _ _).alloc (Nat.le_refl _) (.cells (nodeC 0 u0 (.slice none 0 0)) 27)))
  have hz := zero27r
  clear h0
  go_enter Tryd.func84, Tryd.ntmps84
  go_wp2_with fail
  refine (hC.out _ HU.out.2).mono ?_
  rintro _ w5 ⟨rfl, hk⟩
  have H5 : Hid (GK rb s t w w5) := Lib.hid (HU.out.trans hk)
  clear hk
  unfold boom
  go_wp2
  exact ⟨rfl, rfl, H5.out⟩
set_option maxHeartbeats 4000000 in
theorem thing_o {rb : Nat} {s : ByteArray} {w : World} (hs : s.size ≤ 1000) (q r : List UInt8) (t : RT) (h0 : GA rb s q w) (hC : ATM rb s q (.ok (t, r))) :
    Calls Tryd.prog 84 #[.pointer (some ⟨rb, 0, none⟩)] w (TreeP rb s w (.ok (reps t r))) := by
  have HU := Lib.hid (GK.up h0 ((Below.refl _ _).alloc (Nat.le_refl _) (.cells (nodeC 0 u0 (.slice none 0 0)) 27)))
  have HB2 := Lib.hid (heap_alloc_last w (.cells (nodeC 0 u0 (.slice none 0 0)) 27))
  have hsz : (w.alloc (.cells (nodeC 0 u0 (.slice none 0 0)) 27)).heap.size = w.heap.size + 1 := by simp
  have hrb := h0.2.lt
  have hne : w.heap.size ≠ rb := by omega
  have hz := zero27r
  have HA := Lib.hid fun (q : List UInt8) (hq : Suf s q) => ah_hid (rb := rb) ⟨#[42, 43, 63]⟩ hq (ahl rps q) rfl
  have HN := Lib.hid fun (c : UInt8) (q : List UInt8) (hq : Suf s (c :: q)) => next_hid (rb := rb) hq (by omega : s.size ≤ 9223372036854775806)
  have HI := Lib.hid fun (c : UInt8) (w : World) => (by have := index_any ⟨#[42, 43, 63]⟩ c.toNat w; rwa [toU] at this : Calls Tryd.prog 92 #[.string ⟨#[42, 43, 63]⟩, .int .u8 c.toNat] w fun e w' => e = .returned (.int .i64 (Lib.indexByte rps c)) ∧ w = w')
  obtain ⟨R, hR⟩ : ∃ R, reps t r = R := ⟨_, rfl⟩
  rw [hR]
  have HR := Lib.hid hR
  clear h0 hR
  go_enter Tryd.func84, Tryd.ntmps84
  go_wp2_with fail
  generalize hwA : w.alloc (.cells (nodeC 0 u0 (.slice none 0 0)) 27) = wA at *
  clear hwA
  generalize hb2 : w.heap.size = b2 at *
  refine (hC.out _ HU.out.2).mono ?_
  rintro _ w1 ⟨⟨v, rfl, hRV⟩, hk⟩
  obtain ⟨k, u, p, n, c, rfl⟩ := hRV.form
  have HK1 := Lib.hid hk
  have HRV := Lib.hid hRV
  clear hk hRV
  go_wp2_with (refine wpList_store_row rfl 27 (.tmp 3) (.tmp 6) rfl w1.heap.size (nodeC k u (.slice p n c)) rfl rfl 27 _ (heap_alloc_last w1 _) size27r rfl (nodeC_one _ _ _ _ _) ?_)
  rw [World.setRow_alloc_new]
  have hs1 := HK1.out.1.size
  have S0 : Hid (GK rb s r wA (w1.alloc (.cells (nodeC k u (.slice p n c)) 27))) := Lib.hid (HK1.out.trans (GK.up HK1.out.2 ((Below.refl _ _).alloc (Nat.le_refl _) _)))
  have SB : Hid ((w1.alloc (.cells (nodeC k u (.slice p n c)) 27)).heap[w1.heap.size]? = some (.cells (nodeC k u (.slice p n c)) 27)) := Lib.hid (heap_alloc_last w1 _)
  have SR : Hid (RV (fun b => b2 < b ∧ b < (w1.alloc (.cells (nodeC k u (.slice p n c)) 27)).heap.size ∧ b ≠ w1.heap.size) (w1.alloc (.cells (nodeC k u (.slice p n c)) 27)) t (.agg (nodeC k u (.slice p n c)))) := Lib.hid (by
    refine HRV.out.mono (fun b hb => ?_) (fun b hb hlt => heap_alloc_old w1 _ hlt)
    have : (w1.alloc (.cells (nodeC k u (.slice p n c)) 27)).heap.size = w1.heap.size + 1 := by simp
    rw [this]; omega)
  have SZ : (w1.alloc (.cells (nodeC k u (.slice p n c)) 27)).heap.size = w1.heap.size + 1 := by simp
  generalize hw3 : w1.alloc (.cells (nodeC k u (.slice p n c)) 27) = w3 at *
  clear hw3
  generalize hb3 : w1.heap.size = b3 at *
  clear HRV HK1
  go_wp2_with fail
  (try simp only [Act.put])
  go_loopw [8] (fun _ wr => ∃ t q k u p n c, Hid (reps t q = R) ∧ Hid (GK rb s q wA wr) ∧ Hid (wr.heap[b3]? = some (.cells (nodeC k u (.slice p n c)) 27)) ∧ Hid (RV (fun b => b2 < b ∧ b < wr.heap.size ∧ b ≠ b3) wr t (.agg (nodeC k u (.slice p n c)))) ∧ b3 < wr.heap.size) (fun _ wr => s.size - atR rb wr)
  case atStart => exact ⟨t, r, k, u, p, n, c, HR, S0, SB, SR, by omega⟩
  case round =>
    clear S0 SB SR HR
    obtain ⟨t, q, k, u, p, n, c, HT, HK, HB, HV, hz3⟩ := hrel
    obtain ⟨wo, rfl⟩ : ∃ wo : World, wo = wr := ⟨_, rfl⟩
    have hA := HA.out q HK.out.2.1
    cases hv : ahl rps q with
    | false =>
      rw [hv] at hA
      have hR := reps_stop (t := t) hv
      have hRR : R = (t, q) := by rw [← HT.out, hR]
      subst hRR
      clear HT hR hv
      go_wp2_with fail
      refine (hA.out _ HK.out.2.2).mono ?_
      rintro _ w5 ⟨rfl, hk⟩
      have H5 := Lib.hid hk
      clear hk
      have s5 := H5.out.1.size
      have HX : Hid (w5.heap[b3]? = some (.cells (nodeC k u (.slice p n c)) 27)) := Lib.hid (by rw [H5.out.old hz3 (by omega), HB.out])
      have HY : Hid (w5.heap[b2]? = some (.cells (nodeC 0 u0 (.slice none 0 0)) 27)) := Lib.hid (by
        rw [H5.out.old (by omega) hne, HK.out.gk.old (by omega) hne, HB2.out])
      have HTT : Hid (Gk rb s (s.size - q.length) w w5) := Lib.hid (HU.out.gk.trans (HK.out.gk.trans H5.out))
      have hq := HK.out.2.1
      go_wp2_with (first | (refine wpList_load_row rfl 27 (.tmp 3) rfl b3 rfl 27 _ (0, 0) _ HX.out Tryd.underlying27 rfl size27r ?_) | (refine wpList_store_row rfl 27 (.tmp 2) (.tmp 17) rfl b2 (nodeC k u (.slice p n c)) rfl rfl 27 _ HY.out size27r rfl (nodeC_one _ _ _ _ _) ?_))
      refine bodyPost_ret (v := .agg (nodeC k u (.slice p n c))) (results_cell_row rfl _ _ b2 27 _ (0, 0) _ rfl (setRow_heap w5 b2 _ _ 27 (0, 0) HY.out) Tryd.underlying27 rfl size27r) rfl ⟨⟨_, rfl, ?_⟩, .of hq (Gk.row HTT.out (by omega) hne)⟩
      refine HV.out.mono (fun x hx => ?_) (fun x hx _ => ?_)
      · have h1 : (w5.setRow b2 (nodeC k u (.slice p n c))).heap.size = w5.heap.size := by simp
        rw [h1]; omega
      · rw [setRow_other w5 b2 x _ (by omega)]
        exact H5.out.old (by omega) (by omega)
    | true =>
      rw [hv] at hA
      obtain ⟨d, q', rfl⟩ : ∃ d q', q = d :: q' := by
        cases q with
        | nil => simp [ahl] at hv
        | cons d q' => exact ⟨d, q', rfl⟩
      have hd : rps.contains d = true := hv
      have hI := rps_lt hd
      have hix := HI.out d
      have hN := HN.out d q' HK.out.2.1
      have HT2 : Hid (reps (.mk (5 + Lib.indexByte rps d) u0 [t]) q' = R) := Lib.hid (by rw [← HT.out, reps, if_pos hd])
      clear HT hv hd
      generalize Lib.indexByte rps d = I at *
      have hix2 := Lib.hid hix
      clear hix
      go_wp2_with fail
      refine (hA.out _ HK.out.2.2).mono ?_
      rintro _ w5 ⟨rfl, hk⟩
      have H5 := Lib.hid hk
      clear hk
      go_wp2_with fail
      refine (hN.out _ H5.out.2).mono ?_
      rintro _ w6 ⟨rfl, hk⟩
      have H6 := Lib.hid (H5.out.trans hk)
      clear hk
      go_wp2_with fail
      refine (hix2.out _).mono ?_
      rintro _ w7 ⟨rfl, rfl⟩
      have s6 := H6.out.1.size
      have HX : Hid (w6.heap[b3]? = some (.cells #[.int .i64 k, .int .u64 (u 0), .int .u64 (u 1), .int .u64 (u 2), .int .u64 (u 3), .slice p n c] 27)) := Lib.hid (by rw [H6.out.old hz3 (by omega), HB.out]; rfl)
      go_wp2_with (first | (refine wpList_load_row rfl 27 (.tmp 3) rfl b3 rfl 27 _ (0, 0) _ HX.out Tryd.underlying27 rfl size27r ?_) | (refine wpList_store_row rfl 27 (.tmp 3) (.tmp 16) rfl b3 (nodeC (5 + I) u0 (.slice (some ⟨w6.heap.size, 0, none⟩) 1 1)) rfl rfl 27 _ ((heap_alloc_old w6 _ (by omega)).trans HX.out) size27r rfl (nodeC_one _ _ _ _ _) ?_))
      (try simp only [Act.put])
      have hrow := (heap_alloc_old w6 (.cells #[.int .i64 k, .int .u64 (u 0), .int .u64 (u 1), .int .u64 (u 2), .int .u64 (u 3), .slice p n c] 27) (show b3 < w6.heap.size by omega)).trans HX.out
      have hlast := heap_alloc_last w6 (.cells #[.int .i64 k, .int .u64 (u 0), .int .u64 (u 1), .int .u64 (u 2), .int .u64 (u 3), .slice p n c] 27)
      have hG6 : Gk rb s (s.size - q'.length) wA (w6.alloc (.cells #[.int .i64 k, .int .u64 (u 0), .int .u64 (u 1), .int .u64 (u 2), .int .u64 (u 3), .slice p n c] 27)) := (HK.out.gk.trans H6.out).trans (Gk.up H6.out.2 ((Below.refl _ _).alloc (Nat.le_refl _) _))
      have hsz9 : (w6.alloc (.cells #[.int .i64 k, .int .u64 (u 0), .int .u64 (u 1), .int .u64 (u 2), .int .u64 (u 3), .slice p n c] 27)).heap.size = w6.heap.size + 1 := by simp
      have hkeep : ∀ x, b2 < x → x < wo.heap.size → (w6.alloc (.cells #[.int .i64 k, .int .u64 (u 0), .int .u64 (u 1), .int .u64 (u 2), .int .u64 (u 3), .slice p n c] 27)).heap[x]? = wo.heap[x]? := fun x h1 h2 => by
        rw [heap_alloc_old w6 _ (show x < w6.heap.size by omega), H6.out.old h2 (by omega)]
      have hq' : Suf s q' := HK.out.2.1.tl
      have hw6 : b3 < w6.heap.size := by omega
      have hwo : s.size - atR rb wo = (d :: q').length := by
        rw [HK.out.2.2.at]
        have := HK.out.2.1.len; omega
      generalize hwB : w6.alloc (.cells #[.int .i64 k, .int .u64 (u 0), .int .u64 (u 1), .int .u64 (u 2), .int .u64 (u 3), .slice p n c] 27) = wB at *
      clear hwB
      have hG9 := Gk.row (b := b3) (cs := nodeC (5 + I) u0 (.slice (some ⟨w6.heap.size, 0, none⟩) 1 1)) hG6 (by omega) (by omega)
      have hs9 : (wB.setRow b3 (nodeC (5 + I) u0 (.slice (some ⟨w6.heap.size, 0, none⟩) 1 1))).heap.size = wB.heap.size := by simp
      have hHB := setRow_heap wB b3 _ (nodeC (5 + I) u0 (.slice (some ⟨w6.heap.size, 0, none⟩) 1 1)) 27 (0, 0) hrow
      have hHL := (setRow_other wB b3 w6.heap.size (nodeC (5 + I) u0 (.slice (some ⟨w6.heap.size, 0, none⟩) 1 1)) (by omega)).trans hlast
      have hK9 : ∀ x, b2 < x → x < wo.heap.size → x ≠ b3 → (wB.setRow b3 (nodeC (5 + I) u0 (.slice (some ⟨w6.heap.size, 0, none⟩) 1 1))).heap[x]? = wo.heap[x]? := fun x h1 h2 h3 => (setRow_other wB b3 x _ h3).trans (hkeep x h1 h2)
      generalize wB.setRow b3 (nodeC (5 + I) u0 (.slice (some ⟨w6.heap.size, 0, none⟩) 1 1)) = w9 at *
      have hV9 : RV (fun b => b2 < b ∧ b < w9.heap.size ∧ b ≠ b3) w9 (.mk (5 + I) u0 [t]) (.agg (nodeC (5 + I) u0 (.slice (some ⟨w6.heap.size, 0, none⟩) 1 1))) := by
        refine RV.node (5 + I) u0 [t] w6.heap.size 0 1 (fun _ => nodeC k u (.slice p n c)) ⟨by omega, by omega, by omega⟩ (by simp) (fun i hi => ?_) (fun i hi j hj => ?_)
        · have h0 : i = 0 := by simp at hi; omega
          subst h0
          exact HV.out.mono (fun x hx => ⟨hx.1, by omega, hx.2.2⟩) (fun x hx hlt => hK9 x hx.1 hlt hx.2.2)
        · have h0 : i = 0 := by simp at hi; omega
          subst h0
          refine ⟨(nodeC k u (.slice p n c))[j]'hj, Array.getElem?_eq_getElem (show j < (nodeC k u (.slice p n c)).size from hj), ?_⟩
          have e : 0 + (6 * 0 + j) = j := by omega
          rw [e, cell_of_row w9 w6.heap.size j _ 27 (0, 0) hHL]
          exact Array.getElem?_eq_getElem (show j < (nodeC k u (.slice p n c)).size from hj)
      have HV9 := Lib.hid hV9
      have HHB := Lib.hid hHB
      have HG9 : Hid (GK rb s q' wA w9) := Lib.hid (.of hq' hG9)
      have hm : s.size - atR rb w9 < s.size - atR rb wo := by
        rw [hwo, HG9.out.2.2.at]
        have := hq'.len
        simp only [List.length_cons]; omega
      clear hV9 hHB hG9 hHL hK9 hkeep hrow hlast hG6
      go_roundw
      case rel => exact ⟨.mk (5 + I) u0 [t], q', 5 + I, u0, some ⟨w6.heap.size, 0, none⟩, 1, 1, HT2, HG9, HHB, HV9, by omega⟩
      case measure => exact hm
theorem thing_any {rb : Nat} {s : ByteArray} {q : List UInt8} {w : World} (ch : List UInt8 → Except (List UInt8) (RT × List UInt8)) (h : GA rb s q w) (hs : s.size ≤ 1000) (hch : ∀ q', q'.length < q.length → Suf s q' → CHO rb s q' (ch q')) :
    Calls Tryd.prog 84 #[.pointer (some ⟨rb, 0, none⟩)] w (TreeP rb s w (thingF ch q)) := by
  have hA : ATM rb s q (atomF ch q) := Lib.hid fun w hg => atom_any ch hg hs hch
  unfold thingF
  cases hc : atomF ch q with
  | error t => rw [hc] at hA; exact (thing_e q t h hA).mono fun e w' k => k
  | ok v =>
    obtain ⟨t, r⟩ := v
    rw [hc] at hA
    exact thing_o hs q r t h hA
end Go.Proofs.YtmjojahkbjlcdaaDoor
end
