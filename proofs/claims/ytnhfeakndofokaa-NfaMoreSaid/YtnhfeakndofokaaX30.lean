/- Texts of package regs, one behind the other. -/
import Derived.Test.YtnhfeakndofokaaProg
import Derived.Test.YtnhfeakndofokaaX29
import Derived.WalkKit
import Derived.WalkLawsBesides
import Derived.WalkSpells
import Derived.Outline
import Derived.Lib.Walk
import Derived.Lib.Hide
import Derived.Lib.Slices
import Derived.Lib.Strings
import Derived.RegionTactic
import Derived.LoopTactic
import Derived.Below
import Derived.IntWalk
import Derived.Deep.QuietTactic
import Derived.BigQuiet
import Derived.Deep.MidRow
import Derived.Maps.AppendAt
import Derived.Laws.Rows
import Derived.Laws.Tables
import Derived.Deep.WholeRow
import Derived.Deep.Cut
import Derived.Deep.CutRange
import Derived.Lib.SliceRun
import Derived.Laws.MakeOwn
import Derived.Deep.RegionLaw
import Derived.Deep.RegionLawGrows
import Derived.Deep.RegionHeld3
import Derived.RegionCalls
import Derived.Deep.RegionWith
import Derived.Deep.Light
section
/- Package nfa. -/
namespace Go.Proofs.Ytnhfeakndofokaa
set_option linter.unusedSimpArgs false
set_option linter.unusedVariables false
set_option maxRecDepth 100000
open Go.RowKit
/- The document's Free. -/
structure PA (ss : List Nst) (f f1 : Nat → Bool) (b : Bool) (j : Nat) : Prop where
  le : nofs ss.length f ≤ nofs ss.length f1
  lt : b = true → nofs ss.length f < nofs ss.length f1
  cl : b = false → Clo ss f j
def CB (ss : List Nst) (f : Nat → Bool) (b : Bool) : Prop := b = false → Clo ss f ss.length
structure PB (ss : List Nst) (f f1 : Nat → Bool) (b : Bool) (j : Nat) (l : List Int) (k : Nat) : Prop where
  pa : PA ss f f1 b j
  fj : f j = true
  ck : b = false → ∀ i (h : i < l.length), i < k → f l[i].toNat = true
theorem PB.next {ss : List Nst} {f f1 : Nat → Bool} {b : Bool} {j k : Nat} {l : List Int} (h : PB ss f f1 b j l k) (hk : k < l.length) (hf : f l[k].toNat = true) : PB ss f f1 b j l (k + 1) :=
  ⟨h.pa, h.fj, fun e i hi hlt => by
    by_cases ek : i = k
    · subst ek; exact hf
    · exact h.ck e i hi (by omega)⟩
theorem PB.put {ss : List Nst} {f f1 : Nat → Bool} {b : Bool} {j k : Nat} {l : List Int} {x : Nat} (h : PB ss f f1 b j l k) (hx : x < ss.length) (hf : f x = false) : PB ss (upd f x) f1 true j l (k + 1) := by
  have h1 := nofs_upd hx hf
  have h2 := h.pa.le
  exact ⟨⟨by omega, fun _ => by omega, nofun⟩, by unfold upd; rw [h.fj]; rfl, nofun⟩
theorem PB.fin {ss : List Nst} {f f1 : Nat → Bool} {b : Bool} {j : Nat} {l : List Int} (h : PB ss f f1 b j l l.length) (hl : frOf ss j = l) : PA ss f f1 b (j + 1) :=
  ⟨h.pa.le, h.pa.lt, fun e s hs hfs x hx => by
    by_cases ej : s = j
    · subst ej
      rw [hl] at hx
      obtain ⟨i, hi, rfl⟩ := List.getElem_of_mem hx
      exact h.ck e i hi hi
    · exact h.pa.cl e s (by omega) hfs x hx⟩
set_option maxHeartbeats 16000000 in
theorem rfree_any {D E : Nat → Prop} {w : World} {st : Int} {ss : List Nst} {q : Option Addr} {c : Nat} {f0 : Nat → Bool} {vin : Value} (hn0 : 0 < ss.length) (hln : ss.length ≤ 4096) (hD : ∀ b, D b → b < w.heap.size) (hE : ∀ b, E b → b < w.heap.size) (hSV : SV D w ss (.slice q ss.length c)) (hfi : Fine ss) (hin : InB ss) (hfl : ∀ s ∈ ss, s.fr.length ≤ 1000000) (hV : BV E w ss.length f0 vin) :
    Calls Try.prog 60 #[nV st q ss.length c, vin] w fun e w' => (∃ v f, e = .returned v ∧ (∀ s, s < ss.length → (f s = true ↔ ∃ a, a < ss.length ∧ f0 a = true ∧ Rt ss a s)) ∧ BV (fun b => w.heap.size ≤ b ∧ b < w'.heap.size) w' ss.length f v) ∧ Below w.heap.size w w' := by
  obtain ⟨i0, hi, hz0, hz1, hz2⟩ := info_parts info4b
  obtain ⟨bi, oi, ci, rfl, hEi, hci⟩ := hV
  obtain ⟨q', c', he, hSV2⟩ := id hSV
  cases he
  obtain ⟨bb, o, rfl, hDb, hx⟩ := hSV2 (by intro e; subst e; simp at hn0)
  have hbw := hD bb hDb
  have HX := Lib.hid hx
  have HD := Lib.hid hD
  have HFI := Lib.hid hfi
  have HIN := Lib.hid hin
  have HFL := Lib.hid hfl
  have hW1 := ((Below.refl w.heap.size w).alloc (Nat.le_refl _) (.cells #[.int .i64 st, .slice (some ⟨bb, o, none⟩) ss.length c] 24))
  have hW2 := hW1.alloc (hW1.size) (.cells #[] 4)
  have hs1 : (w.alloc (.cells #[.int .i64 st, .slice (some ⟨bb, o, none⟩) ss.length c] 24)).heap.size = w.heap.size + 1 := by simp
  have HS2 : Hid (((w.alloc (.cells #[.int .i64 st, .slice (some ⟨bb, o, none⟩) ss.length c] 24)).alloc (.cells #[] 4)).heap.size = w.heap.size + 2) := Lib.hid (by simp)
  have HOWN : Hid (((w.alloc (.cells #[.int .i64 st, .slice (some ⟨bb, o, none⟩) ss.length c] 24)).alloc (.cells #[] 4)).ownsRow (w.heap.size + 1) 4 1 (.slice (some ⟨w.heap.size + 1, 0, none⟩) 0 0) 0 []) := Lib.hid ⟨by simp, .inr ⟨w.heap.size + 1, 0, #[], rfl, Nat.le_refl _, by have h := heap_alloc_new (w.alloc (.cells #[.int .i64 st, .slice (some ⟨bb, o, none⟩) ss.length c] 24)) (.cells #[] 4); rw [hs1] at h; exact h, Nat.le_refl _, by simp [maxLen], by simp, by simp⟩⟩
  have HBX : Hid (((w.alloc (.cells #[.int .i64 st, .slice (some ⟨bb, o, none⟩) ss.length c] 24)).alloc (.cells #[] 4)).heap[w.heap.size]? = some (.cells #[.int .i64 st, .slice (some ⟨bb, o, none⟩) ss.length c] 24)) := Lib.hid ((heap_alloc_old _ _ (by simp)).trans (heap_alloc_last w _))
  have HNEW : Hid (∀ j u, (zb ss.length f0)[j]? = some u → ((w.alloc (.cells #[.int .i64 st, .slice (some ⟨bb, o, none⟩) ss.length c] 24)).alloc (.cells #[] 4)).cell? ⟨bi, oi + j, none⟩ = some u) := Lib.hid fun j u hu => by
    have hj : j < ss.length := by have := (List.getElem?_eq_some_iff.1 hu).1; rwa [zb_len] at this
    rw [zb_get hj] at hu
    rw [cell_same (hW2.block bi (hE bi hEi)), hci j hj]
    exact hu
  have HW2 := Lib.hid hW2
  have HZL : Hid ((zb ss.length f0).length = ss.length * 1) := Lib.hid (by rw [zb_len]; omega)
  clear hSV hfi hin hfl hSV2 hx hD hE hW1 hW2 hci hEi
  unfold nV
  go_enter Try.func60, Try.ntmps60
  rw [hs1] at *
  go_wp2_with (at_builtin; refine wpList_append_own_at _ rfl (.tmp 10) (.tmp 11) 71 rfl (w.heap.size + 1) 4 i0 (.bool false) 1 1 Try.underlying71 hi hz0 hz1 hz2 rfl (by decide) (.slice (some ⟨w.heap.size + 1, 0, none⟩) 0 0) 0 [] rfl ?c0 ⟨bi, oi, none⟩ ss.length ci (zb ss.length f0) rfl HZL.out ?c1 (zb_one _ _) ?c3 ?c4 ?c5 ?_)
  case c0 => exact HOWN.out
  case c1 => exact HNEW.out
  case c3 => unfold maxLen; omega
  case c4 => omega
  intro v1 w1 hown1 hg1 _ _
  have hb1 : Below w.heap.size w w1 := below_grown HW2.out hg1 (fun g hg => by have := (World.ownsRow.lt HOWN.out g hg).1; omega) (by have := HS2.out; omega)
  have hbx1 : w1.heap[w.heap.size]? = some (.cells #[.int .i64 st, .slice (some ⟨bb, o, none⟩) ss.length c] 24) := (hg1.block w.heap.size (by have := HS2.out; omega) (by simp [Value.ownBlock])).trans HBX.out
  obtain ⟨g, cap, rfl, hcap, hft⟩ := ft_row hn0 hb1 hbx1 hown1
  have HT := Lib.hid hft
  have HR := Lib.hid (Rin.start ss f0)
  have HC : Hid (CB ss f0 true) := Lib.hid nofun
  clear hown1 hg1 hb1 hbx1 hft HBX HOWN HNEW HS2 HW2 HZL hcap
  go_wp2_with fail
  go_loopw [6] (fun m wr => ∃ (f : Nat → Bool) (b : Bool), m = .bool b ∧ Hid (FT w (.cells #[.int .i64 st, .slice (some ⟨bb, o, none⟩) ss.length c] 24) g ss.length f wr) ∧ Hid (Rin ss f0 f) ∧ Hid (CB ss f b)) (fun m wr => 2 * nofs ss.length (fW wr g) + flg m)
  case atStart => exact ⟨f0, true, rfl, HT, HR, HC⟩
  case round =>
  clear HT HR HC
  obtain ⟨f1, b, rfl, HT, HR, HC⟩ := hrel
  obtain ⟨wo, rfl⟩ : ∃ wo : World, wo = wr := ⟨_, rfl⟩
  cases b with
  | false =>
    have HFT := HT
    go_wp2_with fail
    go_ret
    exact ⟨⟨_, _, rfl, HR.out.done HFI.out (HC.out rfl), HFT.out.bv⟩, HFT.out.1⟩
  | true =>
    clear HC
    have HM1 := Lib.hid HT.out.msr
    have H0 : Hid (PA ss f1 f1 false 0) := Lib.hid ⟨Nat.le_refl _, nofun, fun _ s hs => by omega⟩
    go_wp2_with fail
    go_loopw [6, 7] (fun m i wr => ∃ (f : Nat → Bool) (b : Bool) (j : Nat), m = .bool b ∧ i = .int .i64 (j : Nat) ∧ j ≤ ss.length ∧ Hid (FT w (.cells #[.int .i64 st, .slice (some ⟨bb, o, none⟩) ss.length c] 24) g ss.length f wr) ∧ Hid (Rin ss f0 f) ∧ Hid (PA ss f f1 b j)) (fun _ i _ => ss.length - (intOf i).toNat)
    case atStart => exact ⟨f1, false, 0, rfl, rfl, by omega, HT, HR, H0⟩
    case round =>
    clear HT HR H0
    obtain ⟨f, b, j, rfl, rfl, hj, HT, HR, HN⟩ := hrel
    obtain ⟨wv, rfl⟩ : ∃ wv : World, wv = wr := ⟨_, rfl⟩
    by_cases hlt : j < ss.length
    · have hltI : (j : Int) < (ss.length : Int) := by omega
      have hjI : ¬ (j : Int) < 0 := by omega
      have cj : wv.cell? ⟨g, j, none⟩ = some (.bool (f j)) := HT.out.cell hlt
      obtain ⟨fj, hfj⟩ : ∃ fj, f j = fj := ⟨_, rfl⟩
      rw [hfj] at cj
      have HFJ := Lib.hid hfj
      clear hfj
      cases fj with
      | false =>
        have HN2 : Hid (PA ss f f1 b (j + 1)) := Lib.hid ⟨HN.out.le, HN.out.lt, fun h s hs hfs => by
          by_cases e : s = j
          · subst e; rw [HFJ.out] at hfs; cases hfs
          · exact HN.out.cl h s (by omega) hfs⟩
        clear HN HFJ
        go_wp2_with fail
        go_roundw
        case rel => exact ⟨f, b, j + 1, rfl, by go_num, by omega, HT, HR, HN2⟩
        case measure => simp [intOf]; omega
      | true =>
        obtain ⟨qf, ff, hiv, hcell⟩ := HX.out j hlt
        have hbx := HT.out.2.1
        have kb : wv.cell? ⟨w.heap.size, 1, none⟩ = some (.slice (some ⟨bb, o, none⟩) ss.length c) := cell_of_row wv _ 1 _ 24 (0, 0) hbx
        have hd5 : wv.cell? ⟨bb, o + j * 7 + 5, none⟩ = some (.slice qf (ss[j]).fr.length ff) := (cell_same (HT.out.1.block bb hbw) _).trans (hcell 5 (.slice qf (ss[j]).fr.length ff) rfl)
        have hfl := HFL.out ss[j] (List.getElem_mem hlt)
        have hlo : frOf ss j = (ss[j]).fr := frOf_get hlt
        obtain ⟨l, hl⟩ : ∃ l, (ss[j]).fr = l := ⟨_, rfl⟩
        rw [hl] at hd5 hfl hlo hiv
        have HLO := Lib.hid hlo
        have HIV : Hid (IV D w l (.slice qf l.length ff)) := Lib.hid hiv
        have HP : Hid (PB ss f f1 b j l 0) := Lib.hid ⟨HN.out, HFJ.out, fun _ i _ h => by omega⟩
        clear hcell hl hlo hiv hbx HN HFJ
        go_wp2_with fail
        clear kb hd5 cj
        go_loopw [6, 9] (fun m i wr => ∃ (f : Nat → Bool) (b : Bool) (k : Nat), m = .bool b ∧ i = .int .i64 (k : Nat) ∧ k ≤ l.length ∧ Hid (FT w (.cells #[.int .i64 st, .slice (some ⟨bb, o, none⟩) ss.length c] 24) g ss.length f wr) ∧ Hid (Rin ss f0 f) ∧ Hid (PB ss f f1 b j l k)) (fun _ i _ => l.length - (intOf i).toNat)
        case atStart => exact ⟨f, b, 0, rfl, rfl, by omega, HT, HR, HP⟩
        case round =>
        clear HT HR HP
        obtain ⟨f, b, k, rfl, rfl, hk, HT, HR, HP⟩ := hrel
        obtain ⟨wu, rfl⟩ : ∃ wu : World, wu = wr := ⟨_, rfl⟩
        by_cases hkl : k < l.length
        · obtain ⟨p', c', he, hh⟩ := HIV.out
          injection he with e1 e2 e3
          subst e1 e3
          obtain ⟨ba, oa, rfl, hba, hca⟩ := hh (by intro e; rw [e] at hkl; simp at hkl)
          have cx : wu.cell? ⟨ba, oa + k, none⟩ = some (.int .i64 l[k]) := (cell_same (HT.out.1.block ba (HD.out ba hba)) _).trans (hca k hkl)
          have hxb := HIN.out j l[k] (by rw [HLO.out]; exact List.getElem_mem hkl)
          have hxm : l[k] ∈ frOf ss j := by rw [HLO.out]; exact List.getElem_mem hkl
          obtain ⟨x, hx⟩ : ∃ x : Nat, l[k] = (x : Nat) := ⟨l[k].toNat, by omega⟩
          have HLK := Lib.hid hx
          rw [hx] at cx hxb hxm
          have hxn : x < ss.length := by omega
          have hxI : ¬ (x : Int) < 0 := by omega
          have hxI2 : (x : Int) < (ss.length : Int) := by omega
          have hkI : (k : Int) < (l.length : Int) := by omega
          have hkI2 : ¬ (k : Int) < 0 := by omega
          have cg : wu.cell? ⟨g, x, none⟩ = some (.bool (f x)) := HT.out.cell hxn
          have cf : wu.frozen? ⟨g, x, none⟩ = false := HT.out.free x
          have HXM := Lib.hid hxm
          obtain ⟨fx, hfx⟩ : ∃ fx, f x = fx := ⟨_, rfl⟩
          rw [hfx] at cg
          have HFX := Lib.hid hfx
          clear hh hca hxb hxm hx hfx e2
          cases fx with
          | true =>
            have HP2 : Hid (PB ss f f1 b j l (k + 1)) := Lib.hid (HP.out.next hkl (by rw [HLK.out, Int.toNat_natCast]; exact HFX.out))
            clear HP HFX cf
            go_wp2_with fail
            go_roundw
            case rel => exact ⟨f, b, k + 1, rfl, by go_num, by omega, HT, HR, HP2⟩
            case measure => simp [intOf]; omega
          | false =>
            have HP2 : Hid (PB ss (upd f x) f1 true j l (k + 1)) := Lib.hid (HP.out.put hxn HFX.out)
            have HR2 : Hid (Rin ss f0 (upd f x)) := Lib.hid (by have := HR.out.upd (x := (x : Int)) hlt HP.out.fj HXM.out; rwa [Int.toNat_natCast] at this)
            have HT2 := Lib.hid (HT.out.set hxn)
            clear HP HFX HT HR HXM
            go_wp2_with fail
            go_roundw
            case rel => exact ⟨_, true, k + 1, rfl, by go_num, by omega, HT2, HR2, HP2⟩
            case measure => simp [intOf]; omega
        · obtain rfl : k = l.length := by omega
          have hkI : ¬ (l.length : Int) < (l.length : Int) := by omega
          have HPA := Lib.hid (HP.out.fin HLO.out)
          clear HP
          go_wp2_with fail
          go_roundw
          case rel => exact ⟨f, b, j + 1, rfl, by go_num, by omega, HT, HR, HPA⟩
          case measure => simp [intOf]; omega
    · obtain rfl : j = ss.length := by omega
      have hltI : ¬ (ss.length : Int) < (ss.length : Int) := by omega
      have HC : Hid (CB ss f b) := Lib.hid HN.out.cl
      have HMS := Lib.hid HT.out.msr
      have HMM : Hid (2 * nofs ss.length f + flg (.bool b) < 2 * nofs ss.length f1 + 1) := Lib.hid (by
        have h := HN.out
        cases b with
        | false => have := h.le; simp [flg]; omega
        | true => have := h.lt rfl; simp [flg]; omega)
      clear HN
      go_wp2_with fail
      go_roundw
      case rel => exact ⟨f, b, rfl, HT, HR, HC⟩
      case measure => rw [HMS.out, HM1.out]; exact HMM.out
end Go.Proofs.Ytnhfeakndofokaa
end
section
/- Package nfa. -/
namespace Go.Proofs.Ytnhfeakndofokaa
set_option linter.unusedSimpArgs false
set_option linter.unusedVariables false
set_option maxRecDepth 100000
open Go.RowKit
/- The document's Begin. -/
theorem mkb_bv {w : World} {D : Nat → Prop} {b n c : Nat} {l : List Nat} (h : w.heap[b]? = some (.cells (mkb n l) 4 (0, 0))) (hD : D b) : BV D w n (fun i => decide (i ∈ l)) (.slice (some ⟨b, 0, none⟩) n c) :=
  ⟨b, 0, c, rfl, hD, fun i hi => by rw [Nat.zero_add, cell_of_row w b i _ 4 (0, 0) h, mkb_get hi]⟩
/-- Truths that say where a text leads. -/
def Leads (ss : List Nst) (m : Nat) (x : List UInt8) (f : Nat → Bool) : Prop := ∀ s, s < ss.length → (f s = true ↔ Acc hasU ss x m s)
set_option maxHeartbeats 8000000 in
theorem rbegin_any {D : Nat → Prop} {w : World} {m : Nat} {ss : List Nst} {q : Option Addr} {c : Nat} (hm : m < ss.length) (hln : ss.length ≤ 4096) (hD : ∀ b, D b → b < w.heap.size) (hSV : SV D w ss (.slice q ss.length c)) (hfi : Fine ss) (hin : InB ss) (hfl : ∀ s ∈ ss, s.fr.length ≤ 1000000) :
    Calls Try.prog 45 #[nV (m : Nat) q ss.length c] w fun e w' => (∃ v f, e = .returned v ∧ Leads ss m [] f ∧ BV (fun b => w.heap.size ≤ b ∧ b < w'.heap.size) w' ss.length f v) ∧ Below w.heap.size w w' := by
  have hs0 := ((Sb.start w).alloc (.cells #[.int .i64 (m : Nat), .slice q ss.length c] 24)).alloc (.cells (mkb ss.length []) 4)
  have hs1 : (w.alloc (.cells #[.int .i64 (m : Nat), .slice q ss.length c] 24)).heap.size = w.heap.size + 1 := by simp
  rw [hs1] at hs0
  have S0 := Lib.hid hs0
  have HF := Lib.hid fun (z : World) (hb : Below w.heap.size w z) (b0 : Nat) (hb0 : z.heap[b0]? = some (.cells (mkb ss.length [m]) 4 (0, 0))) => rfree_any (D := D) (E := fun b => b < z.heap.size) (w := z) (st := (m : Nat)) (f0 := fun i => decide (i ∈ [m])) (vin := .slice (some ⟨b0, 0, none⟩) ss.length ss.length) (by omega) hln (fun b h => Nat.lt_of_lt_of_le (hD b h) hb.size) (fun b h => h) (hSV.mono (fun b h => h) (fun b h _ => hb.block b (hD b h))) hfi hin hfl (mkb_bv hb0 (Array.getElem?_eq_some_iff.1 hb0).1)
  unfold nV at HF
  have hmk := fun w => make_b ss.length hln w
  have hmI : ¬ (m : Int) < 0 := by omega
  have hmI2 : (m : Int) < (ss.length : Int) := by omega
  clear hs0 hSV hD hin hfl
  unfold nV
  go_enter Try.func45, Try.ntmps45
  go_upto_region 2 with (simp only [hmk])
  refine at_world (fun y => Sb w y [(w.heap.size + 1, .cells (mkb ss.length []) 4), (w.heap.size, .cells #[.int .i64 (m : Nat), .slice q ss.length c] 24)]) S0.out fun y hy => ?_
  have c0 : y.cell? ⟨w.heap.size, 0, none⟩ = some (.int .i64 (m : Nat)) := hy.tl.cell 0
  have cm : y.cell? ⟨w.heap.size + 1, m, none⟩ = some (.bool false) := by rw [hy.cell m, mkb_get hm]; simp
  have cf : y.frozen? ⟨w.heap.size + 1, m, none⟩ = false := hy.free m
  have hy2 := hy.set (i := m) (.bool true) (by simp)
  rw [mkb_set] at hy2
  have HY := Lib.hid hy2
  clear hy hy2 S0 hs1
  go_upto_region 3 with fail
  refine at_world (fun y => Sb w y [(w.heap.size + 1, .cells (mkb ss.length [m]) 4), (w.heap.size, .cells #[.int .i64 (m : Nat), .slice q ss.length c] 24)]) HY.out fun y1 hy => ?_
  have HC := Lib.hid (HF.out y1 hy.1 _ hy.heap)
  have HB := Lib.hid hy.1
  have c0 : y1.cell? ⟨w.heap.size, 0, none⟩ = some (.int .i64 (m : Nat)) := hy.tl.cell 0
  have c1 : y1.cell? ⟨w.heap.size, 1, none⟩ = some (.slice q ss.length c) := hy.tl.cell 1
  clear hy HF HY cm cf
  go_wp2_with fail
  refine HC.out.mono ?_
  rintro _ w3 ⟨⟨v, f, rfl, hf, hbv⟩, hb3⟩
  have HBV := Lib.hid hbv
  have HFF : Hid (Leads ss m [] f) := Lib.hid fun s hs => by
    rw [hf s hs]
    constructor
    · rintro ⟨a, ha, hm2, hr⟩
      have e : a = m := by simpa using hm2
      subst e
      exact hr
    · intro hr
      exact ⟨m, hm, by simp, hr⟩
  have HB3 := Lib.hid (HB.out.trans (hb3.mono HB.out.size))
  have HSZ := Lib.hid HB.out.size
  clear hbv hf hb3 HC HB c0 c1
  go_wp2_with fail
  go_ret
  exact ⟨⟨_, _, rfl, HFF.out, HBV.out.mono (by omega) (fun b h => ⟨Nat.le_trans HSZ.out h.1, h.2⟩) (fun b _ _ => rfl)⟩, HB3.out⟩
end Go.Proofs.Ytnhfeakndofokaa
end
