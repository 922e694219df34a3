/- Package regs: the reader's small steps: what comes next. -/
import Derived.Test.YtmjojahkbjlcdaaDoorProg
import Derived.Test.YtmjojahkbjlcdaaDoorY3
import Derived.Test.YtmjojahkbjlcdaaDoorY4
import Derived.WalkKit
import Derived.WalkLawsBesides
import Derived.WalkSpells
import Derived.Outline
import Derived.Lib.Walk
import Derived.Lib.Hide
import Derived.RegionTactic
import Derived.LoopTactic
import Derived.Below
import Derived.IntWalk
import Derived.Deep.QuietTactic
import Derived.BigQuiet
import Derived.Deep.MidRow
import Derived.Maps.AppendAt
import Derived.Test.YtmjojahkbjlcdaaDoorG15
namespace Go.Proofs.YtmjojahkbjlcdaaDoor
set_option linter.unusedSimpArgs false
set_option linter.unusedVariables false
set_option maxRecDepth 100000
open Go.RowKit

theorem thgs_le {ch : List UInt8 → Except (List UInt8) (RT × List UInt8)} (hch : Ons ch) : ∀ (k : Nat) {ts ts' : List RT} {l r : List UInt8}, thgs ch k ts l = .ok (ts', r) → r.length ≤ l.length
  | 0, ts, ts', l, r, h => by simp [thgs] at h
  | k + 1, ts, ts', [], r, h => by simp only [thgs] at h; cases h; exact Nat.le_refl _
  | k + 1, ts, ts', c :: l, r, h => by
    rw [thgs] at h
    by_cases hc : ([124, 41] : List UInt8).contains c
    · rw [if_pos hc] at h; cases h; exact Nat.le_refl _
    · rw [if_neg hc] at h
      cases ht : thingF ch (c :: l) with
      | error q => rw [ht] at h; cases h
      | ok v =>
        obtain ⟨t, q⟩ := v
        rw [ht] at h
        have h1 := thingF_lt hch ht
        have h2 := thgs_le hch k h
        omega
theorem rowF_le {ch : List UInt8 → Except (List UInt8) (RT × List UInt8)} (hch : Ons ch) {l r : List UInt8} {t : RT} (h : rowF ch l = .ok (t, r)) : r.length ≤ l.length := by
  unfold rowF at h
  cases hc : thgs ch (l.length + 1) [] l with
  | error q => rw [hc] at h; cases h
  | ok v =>
    obtain ⟨ts, q⟩ := v
    rw [hc] at h
    have := thgs_le hch _ hc
    cases h
    exact this
/-- The rows of a choice, one behind the other. -/
def alts (ch : List UInt8 → Except (List UInt8) (RT × List UInt8)) : Nat → List RT → List UInt8 → Except (List UInt8) (List RT × List UInt8)
  | 0, _, l => .error l
  | k + 1, ts, l => if l.head? = some 124 then match rowF ch l.tail with
      | .error q => .error q
      | .ok (t, q) => alts ch k (ts ++ [t]) q
    else .ok (ts, l)
def choiceF (ch : List UInt8 → Except (List UInt8) (RT × List UInt8)) (l : List UInt8) : Except (List UInt8) (RT × List UInt8) :=
  match rowF ch l with
  | .error q => .error q
  | .ok (t, q) => match alts ch (q.length + 1) [t] q with
    | .error q => .error q
    | .ok (ts, r) => .ok (joinT 4 ts, r)
theorem alts_le {ch : List UInt8 → Except (List UInt8) (RT × List UInt8)} (hch : Ons ch) : ∀ (k : Nat) {ts ts' : List RT} {l r : List UInt8}, alts ch k ts l = .ok (ts', r) → r.length ≤ l.length
  | 0, ts, ts', l, r, h => by simp [alts] at h
  | k + 1, ts, ts', l, r, h => by
    rw [alts] at h
    by_cases hc : l.head? = some 124
    · rw [if_pos hc] at h
      cases ht : rowF ch l.tail with
      | error q => rw [ht] at h; cases h
      | ok v =>
        obtain ⟨t, q⟩ := v
        rw [ht] at h
        have h1 := rowF_le hch ht
        have h2 := alts_le hch k h
        simp only [List.length_tail] at h1
        omega
    · rw [if_neg hc] at h; cases h; exact Nat.le_refl _
theorem choiceF_on {ch : List UInt8 → Except (List UInt8) (RT × List UInt8)} (hch : Ons ch) : Ons (choiceF ch) := fun l t r h => by
  unfold choiceF at h
  cases hc : rowF ch l with
  | error q => rw [hc] at h; cases h
  | ok v =>
    obtain ⟨t', q⟩ := v
    rw [hc] at h
    have h1 := rowF_le hch hc
    simp only at h
    cases hd : alts ch (q.length + 1) [t'] q with
    | error e => rw [hd] at h; cases h
    | ok v2 =>
      obtain ⟨ts, r'⟩ := v2
      rw [hd] at h
      have h2 := alts_le hch _ hd
      cases h
      omega
theorem Th.single {base : Nat} {w : World} {t : RT} {k : Int} {u : Nat → Int} {p : Option Addr} {n c : Nat} (hb : base ≤ w.heap.size) (hv : RV (fun b => base ≤ b ∧ b < w.heap.size) w t (.agg (nodeC k u (.slice p n c)))) :
    Th base [t] (.slice (some ⟨w.heap.size, 0, none⟩) 1 1) (w.alloc (.cells (nodeC k u (.slice p n c)) 27)) := by
  have hsz : (w.alloc (.cells (nodeC k u (.slice p n c)) 27)).heap.size = w.heap.size + 1 := by simp
  refine ⟨[nodeC k u (.slice p n c)], rfl, by simp [nodeC], fun i hi hi' => ?_, ?_⟩
  · have h0 : i = 0 := by simp at hi; omega
    subst h0
    exact hv.mono (fun b hb => ⟨hb.1, by omega, by simp [Value.ownBlock]; omega⟩) (fun b hb hlt => heap_alloc_old w _ hlt)
  · refine ⟨rfl, .inr ⟨w.heap.size, 1, nodeC k u (.slice p n c), rfl, hb, heap_alloc_last w _, by simp, by unfold maxLen; omega, rfl, rfl⟩⟩
theorem TreeP.tr {rb : Nat} {s : ByteArray} {w w' : World} {q : List UInt8} {e : Ending} (h : TreeP rb s w (.error q) e w') : e = boom ∧ GK rb s q w w' := h
set_option maxHeartbeats 8000000 in
theorem choice_walk {rb : Nat} {s : ByteArray} {w : World} (ch : List UInt8 → Except (List UInt8) (RT × List UInt8)) (hs : s.size ≤ 1000) (q0 : List UInt8) (h0 : GA rb s q0 w) (hon : Ons ch)
    (hRW : Hid (∀ q w, q.length ≤ q0.length → GA rb s q w → Calls Tryd.prog 65 #[.pointer (some ⟨rb, 0, none⟩)] w (TreeP rb s w (rowF ch q)))) :
    Calls Tryd.prog 47 #[.pointer (some ⟨rb, 0, none⟩)] w (TreeP rb s w (choiceF ch q0)) := by
  obtain ⟨i0, hi, hz0, hz1, hz2⟩ := info_parts infoN
  have HU := Lib.hid (GK.up h0 ((Below.refl _ _).alloc (Nat.le_refl _) (.cells (nodeC 0 u0 (.slice none 0 0)) 27)))
  have HB2 := Lib.hid (heap_alloc_last w (.cells (nodeC 0 u0 (.slice none 0 0)) 27))
  have hsz : (w.alloc (.cells (nodeC 0 u0 (.slice none 0 0)) 27)).heap.size = w.heap.size + 1 := by simp
  have hrb := h0.2.lt
  have hne : w.heap.size ≠ rb := by omega
  have hz := zero27r
  have hq0 := h0.1.len
  have HPS := Lib.hid fun (q : List UInt8) (hq : Suf s q) => ps_hid (rb := rb) ⟨#[124]⟩ hq (by omega : s.size ≤ 9223372036854775806) (decide (q.head? = some 124)) (ahl_one 124 q)
  have HON := Lib.hid hon
  have hR0 := Lib.hid fun w hg => hRW.out q0 w (Nat.le_refl _) hg
  clear h0 hon
  cases hr0 : rowF ch q0 with
  | error t =>
    unfold choiceF
    rw [hr0] at hR0 ⊢
    clear hr0
    go_enter Tryd.func47, Tryd.ntmps47
    go_wp2_with fail
    refine (hR0.out _ HU.out.2).mono ?_
    rintro _ w5 ⟨rfl, h5⟩
    have H5 : Hid (GK rb s t w w5) := Lib.hid (HU.out.trans h5)
    clear h5
    unfold boom
    go_wp2
    exact ⟨rfl, rfl, H5.out⟩
  | ok v0 =>
    obtain ⟨t0, q1⟩ := v0
    unfold choiceF
    rw [hr0] at hR0 ⊢
    have hle := rowF_le HON.out hr0
    clear hr0
    simp only []
    obtain ⟨R, hR⟩ : ∃ R, alts ch (q1.length + 1) [t0] q1 = R := ⟨_, rfl⟩
    rw [hR]
    have HR := Lib.hid hR
    clear hR
    go_enter Tryd.func47, Tryd.ntmps47
    go_wp2_with fail
    generalize hwA : w.alloc (.cells (nodeC 0 u0 (.slice none 0 0)) 27) = wA at *
    clear hwA
    generalize hb2 : w.heap.size = b2 at *
    refine (hR0.out _ HU.out.2).mono ?_
    rintro _ w1 ⟨⟨v, rfl, hv⟩, hk1⟩
    obtain ⟨k5, u5, p5, n5, c5, rfl⟩ := hv.form2
    have HK1 : Hid (GK rb s q1 wA (w1.alloc (.cells (nodeC k5 u5 (.slice p5 n5 c5)) 27))) := Lib.hid (hk1.trans (GK.up hk1.2 ((Below.refl _ _).alloc (Nat.le_refl _) _)))
    have hs1 := hk1.1.size
    have HT1 : Hid (Th (b2 + 1) [t0] (.slice (some ⟨w1.heap.size, 0, none⟩) 1 1) (w1.alloc (.cells (nodeC k5 u5 (.slice p5 n5 c5)) 27))) := Lib.hid (Th.single (by omega) (RV.mono (fun b hb => ⟨by omega, hb.2⟩) (fun b _ _ => rfl) hv))
    clear hv hk1
    go_wp2_with fail
    go_loopw [3] (fun sl wr => ∃ ts q k, Hid (alts ch k ts q = R) ∧ Hid (Th (b2 + 1) ts sl wr) ∧ Hid (GK rb s q wA wr) ∧ q.length < k ∧ ts ≠ [] ∧ ts.length + q.length ≤ 1 + q0.length) (fun _ wr => s.size - atR rb wr)
    case atStart => exact ⟨[t0], q1, q1.length + 1, HR, HT1, HK1, by omega, by simp, by simp; omega⟩
    case round =>
      clear HR HT1 HK1
      obtain ⟨ts, q, k, HC, HT, HK, hk, hnn, hlen⟩ := hrel
      obtain ⟨wo, rfl⟩ : ∃ wo : World, wo = wr := ⟨_, rfl⟩
      obtain ⟨k, rfl⟩ : ∃ j, k = j + 1 := ⟨k - 1, by omega⟩
      have hp := HPS.out q HK.out.2.1
      have hat : s.size - atR rb wo = q.length := by
        rw [HK.out.2.2.at]; have := HK.out.2.1.len; omega
      have hsufq := HK.out.2.1
      have s1 := HK.out.1.size
      by_cases hc : q.head? = some 124
      · rw [decide_eq_true hc] at hp
        simp only [if_true] at hp
        have hsuf : Suf s q.tail := by
          cases q with
          | nil => exact hsufq
          | cons c r => exact hsufq.tl
        have htl : q.tail.length < q.length := by
          cases q with
          | nil => simp at hc
          | cons c r => simp
        have hRq := Lib.hid fun w hg => hRW.out q.tail w (by omega) hg
        cases hth : rowF ch q.tail with
        | error t =>
          have hr : Except.error t = R := by rw [← HC.out, alts, if_pos hc, hth]
          subst hr
          rw [hth] at hRq
          clear HC hk hc hth
          go_wp2_with fail
          refine (hp.out _ HK.out.2.2).mono ?_
          rintro _ w4 ⟨rfl, h4⟩
          have H4 : Hid (GK rb s q.tail wA w4) := Lib.hid (.of hsuf (HK.out.gk.trans h4))
          clear h4
          go_wp2_with fail
          refine (hRq.out _ H4.out.2).mono ?_
          rintro _ w5 ⟨rfl, h5⟩
          have H5 : Hid (GK rb s t w w5) := Lib.hid ((HU.out.trans H4.out).trans h5)
          clear h5
          unfold boom
          go_wp2
          exact ⟨rfl, rfl, H5.out⟩
        | ok v =>
          obtain ⟨t, r'⟩ := v
          have HC2 : Hid (alts ch k (ts ++ [t]) r' = R) := Lib.hid (by rw [← HC.out, alts, if_pos hc, hth])
          have hlt := rowF_le HON.out hth
          rw [hth] at hRq
          clear HC hc hth
          go_wp2_with fail
          refine (hp.out _ HK.out.2.2).mono ?_
          rintro _ w4 ⟨rfl, h4⟩
          have H4 : Hid (GK rb s q.tail wA w4) := Lib.hid (.of hsuf (HK.out.gk.trans h4))
          have HT4 := Lib.hid (HT.out.keep h4.1 (fun b hb => by cases hb; omega))
          clear h4 HT
          go_wp2_with fail
          refine (hRq.out _ H4.out.2).mono ?_
          rintro _ w5 ⟨⟨v, rfl, hv⟩, h5⟩
          obtain ⟨k5, u5', p5, n5, c5, rfl⟩ := hv.form2
          have HV := Lib.hid (show RV (fun b => w4.heap.size ≤ b ∧ b < w5.heap.size) w5 t (.agg (nodeC k5 u5' (.slice p5 n5 c5))) from hv)
          have H5 := Lib.hid h5
          have HT5 := Lib.hid (HT4.out.keep h5.1 (fun b hb => by cases hb; omega))
          have s4 := H4.out.1.size
          have s5 := h5.1.size
          have hlo1 := Lib.hid fun g (hg : u3.ownBlock = some g) => (by obtain ⟨xs, _, _, _, h4⟩ := HT4.out; exact (World.ownsRow.lt h4 g hg).2 : g < w4.heap.size)
          clear hv h5
          obtain ⟨xs, x1, x2, x3, x4⟩ := HT5.out
          have X3 := Lib.hid x3
          have X4 := Lib.hid (World.ownsRow.alloc x4 (.cells #[.int .i64 k5, .int .u64 (u5' 0), .int .u64 (u5' 1), .int .u64 (u5' 2), .int .u64 (u5' 3), .slice p5 n5 c5] 27))
          have hc0 : ∀ j u, (nodeC k5 u5' (.slice p5 n5 c5)).toList[j]? = some u → (w5.alloc (.cells #[.int .i64 k5, .int .u64 (u5' 0), .int .u64 (u5' 1), .int .u64 (u5' 2), .int .u64 (u5' 3), .slice p5 n5 c5] 27)).cell? ((⟨w5.heap.size, 0, none⟩ : Addr).add j) = some u := fun j u hj => by
            rw [Addr.add_mid, cell_of_row _ w5.heap.size (0 + j) _ 27 (0, 0) (heap_alloc_last w5 _), Nat.zero_add]
            rw [Array.getElem?_toList] at hj; exact hj
          have HC0 := Lib.hid hc0
          have hlen2 : ts.length ≤ 1001 := by omega
          clear hc0 x3 x4
          go_wp2_with (at_builtin; refine wpList_append_own_at _ rfl (.tmp 9) (.tmp 12) 25 rfl (b2 + 1) 27 i0 (.agg (nodeC 0 u0 (.slice none 0 0))) 6 64 Tryd.underlying25 hi hz0 hz1 hz2 rfl (by decide) u3 ts.length (flat xs) rfl ?c0 ⟨w5.heap.size, 0, none⟩ 1 1 (nodeC k5 u5' (.slice p5 n5 c5)).toList rfl rfl ?c1 ?c2 ?c3 ?c4 ?c5 ?_)
          case c0 => exact X4.out
          case c1 => exact HC0.out
          case c2 => exact fun u hu => (Array.all_eq_true_iff_forall_mem.1 (nodeC_one k5 u5' p5 n5 c5)) u (by simpa using hu)
          case c3 => unfold maxLen; omega
          case c4 => omega
          case c5 => simp; omega
          intro v' w7 hown7 hgrow7 _ hat7
          have hbase := fun g (hg : u3.ownBlock = some g) => (World.ownsRow.lt X4.out g hg).1
          have HTA : Hid (Th (b2 + 1) (ts ++ [t]) v' w7) := Lib.hid (Th.app (x := nodeC k5 u5' (.slice p5 n5 c5)) (xs := xs) rfl x1 x2 X3.out rfl (by omega) hlo1.out HV.out hown7 hgrow7 (by rw [show (w5.alloc (.cells #[.int .i64 k5, .int .u64 (u5' 0), .int .u64 (u5' 1), .int .u64 (u5' 2), .int .u64 (u5' 3), .slice p5 n5 c5] 27)).heap.size = w5.heap.size + 1 from by simp]; exact hat7))
          have HK7 : Hid (GK rb s r' wA w7) := Lib.hid (.of H5.out.2.1 (Gk.grown (((H4.out.trans H5.out).gk).trans (Gk.up H5.out.2.2 ((Below.refl _ _).alloc (Nat.le_refl _) _))) hgrow7 (fun g hg => by have := hbase g hg; omega)))
          have hm7 : s.size - atR rb w7 < s.size - atR rb wo := by
            rw [hat, HK7.out.2.2.at]; have := HK7.out.2.1.len; omega
          clear hown7 hgrow7 hat7 hbase hlo1 X3 X4 x1 x2 HT5 HC0
          go_wp2_with fail
          go_roundw
          case rel => exact ⟨ts ++ [t], r', k, HC2, HTA, HK7, by omega, by simp, by simp; omega⟩
          case measure => exact hm7
      · rw [decide_eq_false hc] at hp
        simp only [Bool.false_eq_true, if_false] at hp
        have hr : Except.ok (ts, q) = R := by rw [← HC.out, alts, if_neg hc]
        subst hr
        clear HC hk hc
        go_wp2_with fail
        refine (hp.out _ HK.out.2.2).mono ?_
        rintro _ w4 ⟨rfl, h4⟩
        have H4 : Hid (GK rb s q wA w4) := Lib.hid (.of hsufq (HK.out.gk.trans h4))
        have HT4 := Lib.hid (HT.out.keep h4.1 (fun b hb => by cases hb; omega))
        clear h4 HT
        have s4 := H4.out.1.size
        have HY : Hid (w4.heap[b2]? = some (.cells (nodeC 0 u0 (.slice none 0 0)) 27)) := Lib.hid (by rw [H4.out.gk.old (by omega) hne, HB2.out])
        have HE : Hid (GK rb s q w w4) := Lib.hid (HU.out.trans H4.out)
        have hJ := Lib.hid (joined_any (w := w4) 4 HT4.out hnn)
        go_wp2_with fail
        refine hJ.out.mono ?_
        rintro _ w5 ⟨⟨v, rfl, hv⟩, hb⟩
        obtain ⟨k5, u5, p5, n5, c5, rfl⟩ := hv.form
        have HV := Lib.hid hv
        have hbz := hb.size
        have HY5 : Hid (w5.heap[b2]? = some (.cells (nodeC 0 u0 (.slice none 0 0)) 27)) := Lib.hid ((hb.block b2 (Array.getElem?_eq_some_iff.1 HY.out).1).trans HY.out)
        have HE5 : Hid (GK rb s q w w5) := Lib.hid (HE.out.trans (GK.up HE.out.2 hb))
        clear hv hb
        go_wp2_with (refine wpList_store_row rfl 27 (.tmp 2) (.tmp 15) rfl b2 (nodeC k5 u5 (.slice p5 n5 c5)) rfl rfl 27 _ HY5.out size27r rfl (nodeC_one _ _ _ _ _) ?_)
        refine bodyPost_ret (v := .agg (nodeC k5 u5 (.slice p5 n5 c5))) (results_cell_row rfl _ _ b2 27 _ (0, 0) _ rfl (setRow_heap w5 b2 _ _ 27 (0, 0) HY5.out) Tryd.underlying27 rfl size27r) rfl ⟨⟨_, rfl, ?_⟩, .of HE5.out.2.1 (Gk.row HE5.out.gk (by omega) hne)⟩
        refine HV.out.mono (fun x hx => ?_) (fun x hx _ => setRow_other w5 b2 x _ (by omega))
        have h1 : (w5.setRow b2 (nodeC k5 u5 (.slice p5 n5 c5))).heap.size = w5.heap.size := by simp
        rw [h1]; omega
/-- What stands in brackets, by the depth of brackets that may still come. -/
def chc : Nat → List UInt8 → Except (List UInt8) (RT × List UInt8)
  | 0, l => .error l
  | k + 1, l => choiceF (chc k) l
theorem chc_on : ∀ k, Ons (chc k)
  | 0 => fun l t r h => by simp [chc] at h
  | k + 1 => choiceF_on (chc_on k)
theorem choice_any {rb : Nat} {s : ByteArray} (hs : s.size ≤ 1000) : ∀ (k : Nat) (q : List UInt8) (w : World), q.length < k → GA rb s q w → Calls Tryd.prog 47 #[.pointer (some ⟨rb, 0, none⟩)] w (TreeP rb s w (chc k q))
  | 0, q, w, hk, h => by omega
  | k + 1, q, w, hk, h => by
    have hch : ∀ q', q'.length < k → Suf s q' → CHO rb s q' (chc k q') := fun q' hl _ => Lib.hid fun w' hg => choice_any hs k q' w' hl hg
    refine choice_walk (chc k) hs q h (chc_on k) (Lib.hid fun q1 w1 hl1 h1 => ?_)
    refine row_walk (chc k) hs q1 h1 (chc_on k) (Lib.hid fun q2 w2 hl2 h2 => ?_)
    exact thing_any (chc k) h2 hs (fun q' hl hsuf => hch q' (by omega) hsuf)
end Go.Proofs.YtmjojahkbjlcdaaDoor
