/- Texts of package regs, one behind the other. -/
import Derived.Test.YtnhfeakndofokaaProg
import Derived.Test.YtnhfeakndofokaaY25
import Derived.WalkKit
import Derived.WalkLawsBesides
import Derived.WalkSpells
import Derived.Outline
import Derived.Lib.Walk
import Derived.Lib.Hide
import Derived.Lib.Slices
import Derived.Lib.Strings
import Derived.RegionTactic
import Derived.LoopTactic
import Derived.Below
import Derived.IntWalk
import Derived.Deep.QuietTactic
import Derived.BigQuiet
import Derived.Deep.MidRow
import Derived.Maps.AppendAt
import Derived.Laws.Rows
import Derived.Laws.Tables
import Derived.Deep.WholeRow
import Derived.Deep.Cut
import Derived.Deep.CutRange
import Derived.Lib.SliceRun
import Derived.Laws.MakeOwn
import Derived.Deep.RegionLaw
import Derived.Deep.RegionLawGrows
import Derived.Deep.RegionHeld3
import Derived.RegionCalls
import Derived.Deep.RegionWith
import Derived.Deep.Light
section
/- Package nfa. -/
namespace Go.Proofs.Ytnhfeakndofokaa
set_option linter.unusedSimpArgs false
set_option linter.unusedVariables false
set_option maxRecDepth 100000
open Go.RowKit
/- The document's Accepts. -/
theorem keep2 {v1 v2 : Value} {b1 : Nat} {w0 w w' : World} (h : w.cell? ⟨b1, 0, none⟩ = some v1 ∧ w.cell? ⟨b1, 1, none⟩ = some v2 ∧ b1 < w.heap.size ∧ Below w0.heap.size w0 w) (hb : Below w.heap.size w w') :
    w'.cell? ⟨b1, 0, none⟩ = some v1 ∧ w'.cell? ⟨b1, 1, none⟩ = some v2 ∧ b1 < w'.heap.size ∧ Below w0.heap.size w0 w' := by
  obtain ⟨h1, h2, z1, K⟩ := h
  exact ⟨(hb.cell (p := ⟨b1, 0, none⟩) z1).trans h1, (hb.cell (p := ⟨b1, 1, none⟩) z1).trans h2, Nat.lt_of_lt_of_le z1 hb.size, K.trans (hb.mono K.size)⟩
theorem acc_rules {ss : List Nst} {m : Nat} {x : List UInt8} {f : Nat → Bool} (hfi : Fine ss) (hm : m < ss.length) (h : Leads ss m x f) : (ru (fun r => anyB ss f r ss.length) 48).map (fun (r : Nat) => (r : Int)) = accL hasU (m : Nat) ss x := by
  unfold accL
  rw [Int.toNat_natCast]
  refine rules_ru fun s => ?_
  rw [mem_acc hfi hm]
  constructor
  · intro h1
    have := h1.lt hfi x hm
    exact ⟨this, (h s this).2 h1⟩
  · rintro ⟨h1, h2⟩; exact (h s h1).1 h2
set_option maxHeartbeats 8000000 in
theorem racc_err {D : Nat → Prop} {w : World} {st : Int} {ss : List Nst} {q : Option Addr} {c : Nat} {s : ByteArray} (hD : ∀ b, D b → b < w.heap.size) (hSV : SV D w ss (.slice q ss.length c)) (hfl : ∀ s ∈ ss, s.fr.length ≤ 9223372036854775806) (hln : ss.length ≤ 9223372036854775806) (hch : chkN st ss ≠ 0) :
    Calls Try.prog 24 #[nV st q ss.length c, .string s] w fun e w' => e = .returned (.tuple #[.slice none 0 0, .int .i64 (chkN st ss)]) ∧ Below w.heap.size w w' := by
  have S0 := Lib.hid ((Sb.start w).alloc (.cells #[.int .i64 st, .slice q ss.length c] 24))
  have HT := Lib.hid fun z (hb : Below w.heap.size w z) => refcheck_any (w := z) (st := st) (fun b h => Nat.lt_of_lt_of_le (hD b h) hb.size) (hSV.mono (fun b h => h) (fun b h _ => hb.block b (hD b h))) hfl hln
  unfold nV at HT
  unfold nV
  have hcI : (chkN st ss != 0) = true := by simpa using hch
  generalize chkN st ss = cn at *
  clear hSV hfl hln hD hch
  go_enter Try.func24, Try.ntmps24
  go_wp2_with fail
  refine (HT.out _ S0.out.1).mono ?_
  rintro _ w3 ⟨rfl, hb3⟩
  have S3 := Lib.hid (S0.out.up hb3)
  clear hb3 S0 HT
  go_wp2_with fail
  exact bodyPost_ret (v := .tuple #[.slice none 0 0, .int .i64 cn]) (by simp [results, Try.results24, go_sem]) rfl ⟨rfl, S3.out.1⟩
set_option maxHeartbeats 16000000 in
theorem racc_ok {D : Nat → Prop} {w : World} {st : Int} {ss : List Nst} {q : Option Addr} {c : Nat} {s : ByteArray} (hD : ∀ b, D b → b < w.heap.size) (hSV : SV D w ss (.slice q ss.length c)) (hfl : ∀ s ∈ ss, s.fr.length ≤ 1000000) (hln : ss.length ≤ 4096) (hok : ∀ s ∈ ss, okW s.u) (hs : s.size ≤ 1000000) (hch : chkN st ss = 0) :
    Calls Try.prog 24 #[nV st q ss.length c, .string s] w fun e w' => (∃ v, e = .returned (.tuple #[v, .int .i64 0]) ∧ IV (fun b => w.heap.size ≤ b ∧ b < w'.heap.size) w' (accL hasU st ss s.data.toList) v) ∧ Below w.heap.size w w' := by
  obtain ⟨hmay, -⟩ := chk_ok hch
  obtain ⟨hfine, hst0, hst1⟩ := mayN_fine hmay
  obtain ⟨m, rfl⟩ : ∃ m : Nat, st = (m : Int) := ⟨st.toNat, by omega⟩
  have hmn : m < ss.length := by omega
  have hme := mayN_each hmay
  have S0 := Lib.hid ((Sb.start w).alloc (.cells #[.int .i64 (m : Nat), .slice q ss.length c] 24))
  have HT := Lib.hid fun z (hb : Below w.heap.size w z) => refcheck_any (w := z) (st := (m : Nat)) (fun b h => Nat.lt_of_lt_of_le (hD b h) hb.size) (hSV.mono (fun b h => h) (fun b h _ => hb.block b (hD b h))) (fun s hs => by have := hfl s hs; omega) (by omega)
  have HBG := Lib.hid fun z (hb : Below w.heap.size w z) => rbegin_any (w := z) (m := m) hmn hln (fun b h => Nat.lt_of_lt_of_le (hD b h) hb.size) (hSV.mono (fun b h => h) (fun b h _ => hb.block b (hD b h))) hfine hme.1 hfl
  have HGO := Lib.hid fun z (hb : Below w.heap.size w z) (f : Nat → Bool) (vin : Value) (x : List UInt8) (b : UInt8) (hV : BV (fun b => b < z.heap.size) z ss.length f vin) (hL : Leads ss m x f) => rgo_any (w := z) (m := m) b hmn hln (fun b h => Nat.lt_of_lt_of_le (hD b h) hb.size) (fun b h => h) (hSV.mono (fun b h => h) (fun b h _ => hb.block b (hD b h))) hfine hme.1 hfl hok hme.2.1 hV hL
  have HRU := Lib.hid fun z (hb : Below w.heap.size w z) (f : Nat → Bool) (vin : Value) (hV : BV (fun b => b < z.heap.size) z ss.length f vin) => rrules_any (w := z) (st := (m : Nat)) (f := f) (vin := vin) (by omega) hln (fun b h => Nat.lt_of_lt_of_le (hD b h) hb.size) (fun b h => h) (hSV.mono (fun b h => h) (fun b h _ => hb.block b (hD b h))) hV
  have HFI := Lib.hid hfine
  have hn0 : 0 < ss.length := by omega
  unfold nV at HT HBG HGO HRU
  unfold nV
  rw [hch] at HT
  clear hch hSV hD hfl hok hme hmay hst0 hst1 hfine
  go_enter Try.func24, Try.ntmps24
  go_wp2_with fail
  refine (HT.out _ S0.out.1).mono ?_
  rintro _ w3 ⟨rfl, hb3⟩
  have S3 := Lib.hid (S0.out.up hb3)
  have c0 : w3.cell? ⟨w.heap.size, 0, none⟩ = some (.int .i64 (m : Nat)) := S3.out.cell 0
  have c1 : w3.cell? ⟨w.heap.size, 1, none⟩ = some (.slice q ss.length c) := S3.out.cell 1
  clear hb3 S0 HT
  go_wp2_with fail
  refine (HBG.out _ S3.out.1).mono ?_
  rintro _ w4 ⟨⟨v, f, rfl, hf, hbv⟩, hb4⟩
  have S4 := Lib.hid (S3.out.up hb4)
  have HL : Hid (Leads ss m (s.data.toList.take 0) f) := Lib.hid hf
  have HV : Hid (BV (fun b => b < w4.heap.size) w4 ss.length f v) := Lib.hid (hbv.mono hn0 (fun b h => h.2) (fun b _ _ => rfl))
  clear hb4 S3 HBG c0 c1 hf hbv
  go_wp2_with fail
  go_loopw [7, 8] (fun v i wr => ∃ (j : Nat) (f : Nat → Bool), i = .int .i64 (j : Nat) ∧ j ≤ s.size ∧ Hid (Leads ss m (s.data.toList.take j) f) ∧ Hid (BV (fun b => b < wr.heap.size) wr ss.length f v) ∧ Hid (Sb w wr [(w.heap.size, .cells #[.int .i64 (m : Nat), .slice q ss.length c] 24)])) (fun _ i _ => s.size - (intOf i).toNat)
  case atStart => exact ⟨0, f, rfl, by omega, HL, HV, S4⟩
  case round =>
  clear HL HV S4
  obtain ⟨j, f, rfl, hj, HL, HV, HS⟩ := hrel
  obtain ⟨wo, rfl⟩ : ∃ wo : World, wo = wr := ⟨_, rfl⟩
  have c0 : wo.cell? ⟨w.heap.size, 0, none⟩ = some (.int .i64 (m : Nat)) := HS.out.cell 0
  have c1 : wo.cell? ⟨w.heap.size, 1, none⟩ = some (.slice q ss.length c) := HS.out.cell 1
  by_cases hlt : j < s.size
  · have hlt' : j < s.data.toList.length := by simpa using hlt
    obtain ⟨b, hb⟩ : ∃ b, s.data.toList[j] = b := ⟨_, rfl⟩
    have hg : ∀ h, s[j]'h = b := fun h => hb
    have htk : s.data.toList.take (j + 1) = s.data.toList.take j ++ [b] := by rw [List.take_add_one, List.getElem?_eq_getElem hlt', hb]; rfl
    have HTK := Lib.hid htk
    have hltI : (j : Int) < (s.size : Int) := by omega
    have hjI : ¬ (j : Int) < 0 := by omega
    have z1 : w.heap.size < wo.heap.size := HS.out.lt
    have hb0 := (Below.refl wo.heap.size wo).drew
    have HC : Hid (∀ z, Below wo.heap.size wo z → Calls Try.prog 46 #[.agg #[.int .i64 (m : Nat), .slice q ss.length c], _, .int .u8 b.toNat] z _) := Lib.hid fun z hz => HGO.out z (HS.out.1.trans (hz.mono HS.out.1.size)) f _ _ b (HV.out.mono hn0 (fun b h => Nat.lt_of_lt_of_le h hz.size) (fun b h _ => hz.block b h)) HL.out
    clear hb htk hlt'
    go_wp2_with fail
    go_region_held3 (fun w' => w'.cell? ⟨w.heap.size, 0, none⟩ = some (.int .i64 (m : Nat)) ∧ w'.cell? ⟨w.heap.size, 1, none⟩ = some (.slice q ss.length c) ∧ w.heap.size < w'.heap.size ∧ Below wo.heap.size wo w')
      (first | assumption | exact ⟨c0, c1, z1, hb0⟩ | exact keep2 (w := wo.drew) ⟨c0, c1, z1, hb0⟩ hb | exact keep2 (by assumption) hb)
      (first | (go_at_call 46; refine (HC.out _ hb0).mono ?_; rintro _ w' ⟨⟨v9, f9, rfl, hl9, hv9⟩, hb⟩))
    have hb9 : Below wo.heap.size wo w' := hb0.trans (hb.mono hb0.size)
    have HS9 := Lib.hid (HS.out.up hb9)
    have HL9 : Hid (Leads ss m (s.data.toList.take (j + 1)) f9) := Lib.hid (by rw [HTK.out]; exact hl9)
    have HV9 : Hid (BV (fun b => b < w'.heap.size) w' ss.length f9 v9) := Lib.hid (hv9.mono hn0 (fun b h => h.2) (fun b _ _ => rfl))
    clear hb hb9 hl9 hv9 HC c0 c1 HS HL HV HTK hb0 z1
    go_wp2_with fail
    go_roundw
    case rel => exact ⟨j + 1, f9, by go_num, by omega, HL9, HV9, HS9⟩
    case measure => simp [intOf]; omega
  · obtain rfl : j = s.size := by omega
    have hltI : ¬ (s.size : Int) < (s.size : Int) := by omega
    have hL := HL.out
    rw [List.take_of_length_le (by simp)] at hL
    have hR := HRU.out wo HS.out.1 f _ HV.out
    rw [acc_rules HFI.out hmn hL] at hR
    have HR := Lib.hid hR
    clear hL hR HRU HL HV
    go_wp2_with fail
    refine HR.out.mono ?_
    rintro _ w5 ⟨⟨v, rfl, hiv⟩, hb5⟩
    have HIV := Lib.hid hiv
    have hsz := HS.out.1.size
    have HB := Lib.hid (HS.out.1.trans (hb5.mono HS.out.1.size))
    clear hiv hb5 HR c0 c1
    go_wp2_with fail
    exact bodyPost_ret (v := .tuple #[v, .int .i64 0]) (by simp [results, Try.results24, go_sem]) rfl ⟨⟨_, rfl, HIV.out.mono (fun b h => ⟨by omega, h.2⟩) (fun b h _ => rfl)⟩, HB.out⟩
end Go.Proofs.Ytnhfeakndofokaa
end
section
/- Package nfa. -/
namespace Go.Proofs.Ytnhfeakndofokaa
set_option linter.unusedSimpArgs false
set_option linter.unusedVariables false
set_option maxRecDepth 100000
open Go.RowKit
/- MarkInts. -/
structure Only (g : Option Nat) (w w' : World) : Prop where
  os : w'.os = w.os
  tape : w'.tape = w.tape
  output : w'.output = w.output
  size : w'.heap.size = w.heap.size
  block : ∀ k, some k ≠ g → w'.heap[k]? = w.heap[k]?
theorem Only.refl (g : Option Nat) (w : World) : Only g w w := ⟨rfl, rfl, rfl, rfl, fun _ _ => rfl⟩
theorem Only.set {w w' : World} {g : Nat} (h : Only (some g) w w') (i : Nat) (v : Value) : Only (some g) w (w'.setCell ⟨g, i, none⟩ v) :=
  ⟨h.os, h.tape, h.output, by simpa using h.size, fun k hk => (heap_setCell_other w' _ k v (fun e => hk (by rw [e]))).trans (h.block k hk)⟩
theorem Only.below {B : Nat} {g : Option Nat} {w0 w w' : World} (h : Only g w w') (hb : Below B w0 w) (hg : ∀ k, g = some k → B ≤ k) : Below B w0 w' :=
  ⟨h.os.trans hb.os, h.tape.trans hb.tape, h.output.trans hb.output, by rw [h.size]; exact hb.size, fun k hk => (h.block k (fun e => by have := hg k e.symm; omega)).trans (hb.block k hk)⟩
def mkn (n k : Nat) : List Int := (List.range k).map fun i : Nat => (-(n : Int) - (i : Int) - 1)
theorem mkn_len (n k : Nat) : (mkn n k).length = k := by simp [mkn]
set_option maxHeartbeats 8000000 in
theorem mark_any {B n : Nat} {w : World} {l : List Int} {v : Value} (hn : n ≤ 1000000) (hl : l.length ≤ 1000000) (h : w.ownsRow B 3 1 v l.length (zi l)) :
    Calls Try.prog 23 #[v, .int .i64 (n : Nat)] w fun e w' => e = .returned (.int .i64 ((n + l.length : Nat) : Int)) ∧ Only v.ownBlock w w' ∧ w'.ownsRow B 3 1 v l.length (zi (mkn n l.length)) := by
  by_cases h0 : l.length = 0
  · obtain ⟨p, c, rfl⟩ := row_form h
    have hl0 : l = [] := List.length_eq_zero_iff.1 h0
    subst hl0
    have H := Lib.hid h
    clear h h0 hl
    have hI : ¬ ((([] : List Int).length : Nat) : Int) < ((([] : List Int).length : Nat) : Int) := by simp
    go_enter Try.func23, Try.ntmps23
    go_wp2_with fail
    go_loopw [5] (fun i wr => i = .int .i64 0 ∧ wr = w) (fun _ _ => 0)
    case atStart => exact ⟨rfl, rfl⟩
    case round =>
    obtain ⟨rfl, rfl⟩ := hrel
    go_wp2_with fail
    go_ret
    exact ⟨by simp, Only.refl _ _, H.out⟩
  · obtain ⟨g, cap, cs, rfl, h1, h2, h3, h4, h5, h6⟩ : ∃ g cap cs, v = .slice (some ⟨g, 0, none⟩) l.length cap ∧ B ≤ g ∧ w.heap[g]? = some (.cells cs 3 (0, 0)) ∧ l.length ≤ cap ∧ cap ≤ maxLen ∧ cs.size = cap ∧ True := by
      rcases h.2 with ⟨_, e⟩ | ⟨g, cap, cur, hv, h1, h2, h3, h4, h5, _⟩
      · exact absurd e h0
      · exact ⟨g, cap, cur, hv, h1, h2, h3, h4, by omega, trivial⟩
    have H0 : Hid (∃ cs : Array Value, w.heap[g]? = some (.cells cs 3 (0, 0)) ∧ cs.size = cap ∧ ∀ k, k < 0 → cs[k]? = some (.int .i64 (-(n : Int) - (k : Int) - 1))) := Lib.hid ⟨cs, h2, h5, fun k hk => by omega⟩
    have HO := Lib.hid (Only.refl (some g) w)
    have HF := Lib.hid (And.intro h1 (And.intro h3 h4))
    clear h h0 h1 h2 h3 h4 h5 h6
    obtain ⟨m, hm⟩ : ∃ m, l.length = m := ⟨_, rfl⟩
    rw [hm] at hl HF ⊢
    clear hm
    go_enter Try.func23, Try.ntmps23
    go_wp2_with fail
    go_loopw [5] (fun i wr => ∃ j : Nat, i = .int .i64 (j : Nat) ∧ j ≤ m ∧ Hid (∃ cs : Array Value, wr.heap[g]? = some (.cells cs 3 (0, 0)) ∧ cs.size = cap ∧ ∀ k, k < j → cs[k]? = some (.int .i64 (-(n : Int) - (k : Int) - 1))) ∧ Hid (Only (some g) w wr)) (fun i _ => m - (intOf i).toNat)
    case atStart => exact ⟨0, rfl, by omega, H0, HO⟩
    case round =>
    clear H0 HO
    obtain ⟨j, rfl, hj, HC, HO⟩ := hrel
    obtain ⟨wo, rfl⟩ : ∃ wo : World, wo = wr := ⟨_, rfl⟩
    by_cases hlt : j < m
    · have hltI : (j : Int) < (m : Int) := by omega
      have hjI : ¬ (j : Int) < 0 := by omega
      obtain ⟨cs, k1, k2, k3⟩ := HC.out
      have hcap := HF.out.2.1
      obtain ⟨old, hold⟩ : ∃ old, cs[j]? = some old := ⟨cs[j]'(by omega), Array.getElem?_eq_getElem (by omega)⟩
      have cj : wo.cell? ⟨g, j, none⟩ = some old := by rw [cell_of_row wo g j _ 3 (0, 0) k1]; exact hold
      have cf : wo.frozen? ⟨g, j, none⟩ = false := frozen_of_row wo g j _ 3 k1
      have HC2 : Hid (∃ cs : Array Value, (wo.setCell ⟨g, j, none⟩ (.int .i64 (-(n : Int) - (j : Int) - 1))).heap[g]? = some (.cells cs 3 (0, 0)) ∧ cs.size = cap ∧ ∀ k, k < j + 1 → cs[k]? = some (.int .i64 (-(n : Int) - (k : Int) - 1))) := Lib.hid ⟨cs.setIfInBounds j (.int .i64 (-(n : Int) - (j : Int) - 1)), heap_setCell_same wo g j cs 3 _ k1, by simpa using k2, fun k hk => by
        rw [Array.getElem?_setIfInBounds]
        by_cases e : j = k
        · subst e; rw [if_pos rfl, if_pos (by omega)]
        · rw [if_neg e]; exact k3 k (by omega)⟩
      have HO2 := Lib.hid (HO.out.set j (.int .i64 (-(n : Int) - (j : Int) - 1)))
      clear HC HO k1 k2 k3 hold hcap
      go_wp2_with fail
      go_roundw
      case rel => exact ⟨j + 1, by go_num, by omega, HC2, HO2⟩
      case measure => simp [intOf]; omega
    · obtain rfl : j = m := by omega
      have hltI : ¬ (j : Int) < (j : Int) := by omega
      obtain ⟨cs, k1, k2, k3⟩ := HC.out
      have hf := HF.out
      have HW : Hid (wo.ownsRow B 3 1 (.slice (some ⟨g, 0, none⟩) j cap) j (zi (mkn n j))) := Lib.hid ⟨by simp [zi, mkn], .inr ⟨g, cap, cs, rfl, hf.1, k1, hf.2.1, hf.2.2, by omega, by
        apply List.ext_getElem?
        intro i
        rw [Nat.mul_one, List.getElem?_take]
        by_cases hi : i < j
        · rw [if_pos hi, Array.getElem?_toList, k3 i hi]
          simp [zi, mkn, hi]
        · rw [if_neg hi, List.getElem?_eq_none (by simp [zi, mkn]; omega)]⟩⟩
      clear HC k1 k2 k3 hf
      go_wp2_with fail
      go_ret
      exact ⟨by first | rfl | (congr 2; omega), HO.out, HW.out⟩
end Go.Proofs.Ytnhfeakndofokaa
end
