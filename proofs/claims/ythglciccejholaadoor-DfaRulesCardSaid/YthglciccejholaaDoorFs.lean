/- Package dfa. -/
import Derived.Test.YthglciccejholaaDoorProg
import Derived.Test.YthglciccejholaaDoorV18
import Derived.Test.YthglciccejholaaDoorV19
import Derived.Test.YthglciccejholaaDoorV16
import Derived.Test.YthglciccejholaaDoorV20
import Derived.RangeFuncNested
import Derived.RangeFuncBound
import Derived.RangeFuncCalls
import Derived.RangeFuncLeaves
import Derived.RangeFuncBox
import Derived.Shelf.Abstract
import Derived.Shelf.RegionOpen
import Derived.WalkKit
import Derived.OwnWalkIn
import Derived.TacticsInMore
import Derived.LoopNIn
import Derived.LoopIn
import Derived.Below
import Derived.Lib.Hide
import Derived.Lib.Walk
namespace Go.Proofs.YthglciccejholaaDoor
set_option linter.unusedSimpArgs false
set_option linter.unusedVariables false
set_option maxRecDepth 100000
open Go.RowKit Go.Shelf
/- lead. -/
attribute [local go_sem] Oper.semAt_some
theorem at_K {K : Act → World → Prop} {a : Act} {w : World} (R : World → Prop) (hR : R w) (h : ∀ y, R y → K a y) : K a w := h w hR
def toN (ss : List Nst) (x : Nat) : Nat := match ss[x]? with
  | some z => z.to.toNat
  | none => 0
def gl (ss : List Nst) (l : List Nat) : List Nat := l.foldl (fun a x => rch a (toN ss x)) []
def leadL (ss : List Nst) (fs fb : Nat → Bool) : List Nat := goF ss (ss.length + 1) 0 (gl ss ((List.range 4096).filter fun x => fs x && fb x))
theorem FS.at {D : Nat → Prop} {B : Nat} {w0 y : World} {F o T : Nat} {R0 : Array Value} {la l : List Nat} {sl : Value} (h : FS D B w0 y F o T R0 la l sl) {j : Nat} (hj : j < o) : y.cell? ⟨F, j, none⟩ = R0[j]? := by
  obtain ⟨R, hR, hr⟩ := h.f
  rw [cell_of_row y F j R T (0, 0) hR]; exact hr.out j (.inl hj)
set_option maxHeartbeats 8000000 in
theorem lead_any {D : Nat → Prop} {B : Nat} {w0 y : World} {bb g h mg mh cg ch k s : Nat} {R0 : Array Value} {la : List Nat} {sl stp fsl : Value} {fs fb : Nat → Bool} {ss : List Nst} (hF : FS D B w0 y bb 326 144 R0 la la sl)
    (r0 : R0[0]? = some stp) (r1 : R0[1]? = some fsl) (r4 : R0[322]? = some (.slice (some ⟨h, 0, none⟩) mh ch)) (r5 : R0[323]? = some (.slice (some ⟨g, 0, none⟩) mg cg)) (hk : k < mg) (hs : s < mh) (hmg : mg ≤ 4096) (hmh : mh ≤ 4096)
    (hDg : D g) (hDh : D h) (hSV : SV D w0 ss stp) (hn : ss.length ≤ 4096) (hD0 : D 0) (hTB : R5.Tb w0) (hNV : NV D w0 (ss.map (·.fr)) fsl) (hfr : InB ss) (hfl : ∀ s ∈ ss, s.fr.length ≤ 9223372036854775806) (hto : ∀ x, x < 4096 → (fs x && fb x) = true → ∃ hx : x < ss.length, 0 ≤ ss[x].to ∧ ss[x].to < ss.length) (hs1 : SW w0 g (k * 64) fs) (hs2 : SW w0 h (s * 64) fb) :
    Calls Tryd.prog 117 #[.pointer (some ⟨bb, 0, none⟩), .int .i64 (k : Nat), .int .i64 (s : Nat)] y fun e y' => e = .returned (.tuple #[]) ∧ ∃ sl', FS D B w0 y' bb 326 144 R0 (leadL ss fs fb) (leadL ss fs fb) sl' := by
  have hsz := hF.sz
  have HSV := Lib.hid hSV
  have HTO := Lib.hid hto
  have HTB := Lib.hid hTB
  have HD0 := Lib.hid hD0
  have HNV := Lib.hid hNV
  have HFR := Lib.hid hfr
  have HFL := Lib.hid hfl
  clear hSV hto hTB hD0 hNV hfr hfl
  have hbx : Below y.heap.size y (y.alloc (.cells #[.pointer (some ⟨bb, 0, none⟩)] 101)) := (Below.refl _ _).alloc (Nat.le_refl _) _
  have H1 := Lib.hid (hF.rebase hbx)
  have hbox : (y.alloc (.cells #[.pointer (some ⟨bb, 0, none⟩)] 101)).heap[y.heap.size]? = some (.cells #[.pointer (some ⟨bb, 0, none⟩)] 101) := heap_alloc_last y _
  have HBOX := Lib.hid hbox
  have HBX := Lib.hid hbx
  have hzs : (y.alloc (.cells #[.pointer (some ⟨bb, 0, none⟩)] 101)).heap.size = y.heap.size + 1 := by simp
  have HZS := Lib.hid hzs
  have hg1 : SW y g (k * 64) fs := hs1.same (hF.kp g hDg)
  have hh1 : SW y h (s * 64) fb := hs2.same (hF.kp h hDh)
  have HG := Lib.hid hg1
  have HH := Lib.hid hh1
  have HFF := Lib.hid hF
  have HDG := Lib.hid hDg
  have HDH := Lib.hid hDh
  clear hF hs1 hs2 hg1 hh1 hDg hDh hbox hbx hzs
  refine (callsIn_wide (n := 3)).1 ?_
  refine callsIn_of_wp_marks Tryd.func117 rfl trivial ?_ rfl
  rw [wpIn_wide]
  simp only [Tryd.ntmps117, List.size_toArray, List.length_cons, List.length_nil, Nat.reduceAdd, Nat.reduceSub, Array.replicate_succ, Array.replicate_zero, List.push_toArray, List.append_toArray, List.nil_append, List.cons_append]
  go_wp2_with fail
  refine (emptyS_any H1.out).mono ?_
  rintro _ z2 ⟨rfl, sl2, h2⟩
  go_upto_region 2 with fail
  have H2 := Lib.hid h2
  have hgz : ∀ v : World, Below z2.heap.size z2 v → SW v g (k * 64) fs := fun v hb => ((HG.out.same ((HBX.out.block g HG.out.lt))).same (h2.kp g (.inl HDG.out))).same (hb.block g (h2.dl g (.inl HDG.out)))
  have hhz : ∀ v : World, Below z2.heap.size z2 v → SW v h (s * 64) fb := fun v hb => ((HH.out.same ((HBX.out.block h HH.out.lt))).same (h2.kp h (.inl HDH.out))).same (hb.block h (h2.dl h (.inl HDH.out)))
  have hAz : ∀ v : World, Below z2.heap.size z2 v → v.cell? ⟨y.heap.size, 0, none⟩ = some (.pointer (some ⟨bb, 0, none⟩)) := fun v hb => by
    have hA := Nat.lt_succ_self y.heap.size
    have hd : D y.heap.size ∨ (y.heap.size ≤ y.heap.size ∧ y.heap.size < (y.alloc (.cells #[.pointer (some ⟨bb, 0, none⟩)] 101)).heap.size) := .inr ⟨Nat.le_refl _, by rw [HZS.out]; exact hA⟩
    rw [cell_of_row v y.heap.size 0 _ 101 (0, 0) ((hb.block _ (h2.dl _ hd)).trans ((h2.kp _ hd).trans HBOX.out))]; rfl
  have c5z : ∀ v : World, Below z2.heap.size z2 v → v.cell? ⟨bb, 323, none⟩ = some (.slice (some ⟨g, 0, none⟩) mg cg) := fun v hb => by
    rw [cell_same (hb.block bb h2.lt), h2.at (by omega)]; exact r5
  have c4z : ∀ v : World, Below z2.heap.size z2 v → v.cell? ⟨bb, 322, none⟩ = some (.slice (some ⟨h, 0, none⟩) mh ch) := fun v hb => by
    rw [cell_same (hb.block bb h2.lt), h2.at (by omega)]; exact r4
  have HGZ := Lib.hid hgz
  have HHZ := Lib.hid hhz
  have HAZ := Lib.hid hAz
  have HC5 := Lib.hid c5z
  have HC4 := Lib.hid c4z
  have hkI : (k : Int) < (mg : Int) := by omega
  have hkI0 : ¬ (k : Int) < 0 := by omega
  have hsI : (s : Int) < (mh : Int) := by omega
  have hsI0 : ¬ (s : Int) < 0 := by omega
  obtain ⟨mv, hmv⟩ : ∃ mv, (sV fun x => fs x && fb x) = mv := ⟨_, rfl⟩
  have hmd : ∀ v : World, Below z2.heap.size z2 v → Calls Tryd.prog 124 #[.pointer (some ⟨g, k * 64, none⟩), .pointer (some ⟨h, s * 64, none⟩)] v fun e v' => e = .returned mv ∧ Below v.heap.size v v' := fun v hb => by
    rw [← hmv]; exact meet_any (hgz v hb) (hhz v hb)
  have HMD := Lib.hid hmd
  have HMV := Lib.hid hmv
  have hzz : Array.replicate 64 (Value.int .u64 0) = sA noS := sA_no.symm
  clear h2 hgz hhz hAz c5z c4z hmd hmv
  refine Code.wp_mono (Q := fun e a v => ∃ T6, e = .normal ∧ a = { tmps := List.toArray (.pointer (some ⟨bb, 0, none⟩) :: .int .i64 (k : Nat) :: .int .i64 (s : Nat) :: .pointer (some ⟨y.heap.size, 0, none⟩) :: undef :: undef :: Value.pointer (some ⟨T6, 0, none⟩) :: undef :: .pointer (some ⟨bb, 0, none⟩) :: .pointer (some ⟨bb, 0, none⟩) :: .pointer (some ⟨bb, 326, none⟩) :: .tuple #[] :: .pointer (some ⟨bb, 0, none⟩) :: .pointer (some ⟨bb, 0, none⟩) :: .pointer (some ⟨bb, 323, none⟩) :: .slice (some ⟨g, 0, none⟩) mg cg :: .int .i64 (k : Nat) :: .pointer (some ⟨g, k * 64, none⟩) :: .pointer (some ⟨bb, 0, none⟩) :: .pointer (some ⟨bb, 0, none⟩) :: .pointer (some ⟨bb, 322, none⟩) :: .slice (some ⟨h, 0, none⟩) mh ch :: .int .i64 (s : Nat) :: .pointer (some ⟨h, s * 64, none⟩) :: mv :: undef :: undef :: undef :: undef :: undef :: undef :: undef :: undef :: undef :: undef :: undef :: undef :: undef :: undef :: undef :: undef :: undef :: undef :: undef :: undef :: undef :: undef  :: []), defers := [] } ∧ Below z2.heap.size z2 v ∧ z2.heap.size ≤ T6 ∧ v.heap[T6]? = some (.cells (sA fun x => fs x && fb x) 139)) ?next ?region
  case next =>
    rintro e a v ⟨T6, rfl, rfl, hb, hle, hrow⟩
    obtain ⟨D3, hd1, hd2, hd3, h3, hbk⟩ : ∃ D3 : Nat → Prop, (∀ b, D b → D3 b) ∧ D3 T6 ∧ D3 y.heap.size ∧ FS D3 B v v bb 326 144 R0 [] [] sl2 ∧ ∀ W l sl', FS D3 B v W bb 326 144 R0 l l sl' → FS D B w0 W bb 326 144 R0 l l sl' :=
      ⟨_, fun b h => .inl (.inl h), .inr ⟨hle, (Array.getElem?_eq_some_iff.1 hrow).1⟩, .inl (.inr ⟨Nat.le_refl _, by rw [HZS.out]; exact Nat.lt_succ_self _⟩), H2.out.rebase hb, fun W l sl' hh => HFF.out.back HBX.out (H2.out.back hb hh)⟩
    have H3 := Lib.hid h3
    have HD1 := Lib.hid hd1
    have HBK := Lib.hid hbk
    clear h3 hbk hd1
    have HROW := Lib.hid hrow
    have HB3 := Lib.hid hb
    have hvs := hb.size
    have hTlt := (Array.getElem?_eq_some_iff.1 hrow).1
    have HAV := Lib.hid (HAZ.out v hb)
    have HV0 : Hid (∀ b, D b → v.heap[b]? = w0.heap[b]?) := Lib.hid fun b hd => (HBK.out v [] sl2 H3.out).kp b hd
    clear hb hrow HGZ HHZ HC5 HC4 HMD HAZ
    go_wp2_with fail
    rw [← wpIn_wide (n := 3)]
    refine range_each (b := T6) (o := 0) (f := fun x => fs x && fb x) rfl (fun l W => ∃ sl', FS D3 B v W bb 326 144 R0 (gl ss l) (gl ss l) sl' ∧ (gl ss l).Nodup ∧ ∀ q ∈ gl ss l, q < ss.length) ?hS ?hT ?hD ?hI ?h0 (fun x => { tmps := #[.pointer (some ⟨bb, 0, none⟩), .int .i64 (k : Nat), .int .i64 (s : Nat), .pointer (some ⟨y.heap.size, 0, none⟩), undef, undef, Value.pointer (some ⟨T6, 0, none⟩), .int .i64 (x : Nat), .pointer (some ⟨bb, 0, none⟩), .pointer (some ⟨bb, 0, none⟩), .pointer (some ⟨bb, 326, none⟩), .tuple #[], .pointer (some ⟨bb, 0, none⟩), .pointer (some ⟨bb, 0, none⟩), .pointer (some ⟨bb, 323, none⟩), .slice (some ⟨g, 0, none⟩) mg cg, .int .i64 (k : Nat), .pointer (some ⟨g, k * 64, none⟩), .pointer (some ⟨bb, 0, none⟩), .pointer (some ⟨bb, 0, none⟩), .pointer (some ⟨bb, 322, none⟩), .slice (some ⟨h, 0, none⟩) mh ch, .int .i64 (s : Nat), .pointer (some ⟨h, s * 64, none⟩), mv, Value.func (Fn.func 119) #[Value.pointer (some ⟨T6, 0, none⟩)] #[], .int .i64 (x : Nat), undef, undef, undef, undef, undef, undef, undef, undef, undef, undef, undef, undef, undef, undef, undef, undef, undef, undef, undef, undef], defers := [] }) ?assign ?body ?done
    case hS =>
      rintro pre W ⟨sl', hf, -, -⟩
      exact SW.row (T := 139) ((hf.kp T6 hd2).trans HROW.out)
    case hT =>
      rintro pre W ⟨sl', hf, -, -⟩
      exact R5.Tb.mono HTB.out ((hf.kp 0 (HD1.out 0 HD0.out)).trans (HV0.out 0 HD0.out))
    case hD =>
      rintro pre W ⟨sl', hf, h1, h2⟩
      exact ⟨sl', hf.drew, h1, h2⟩
    case hI =>
      rintro pre W W' row ⟨sl', hf, h1, h2⟩ hg hr
      refine ⟨sl', hf.turn hg fun r e => ⟨?_, fun hd => ?_, (hr r e).2⟩, h1, h2⟩
      · have := (hr r e).1; have := H3.out.sz; omega
      · have := (hr r e).1; have := H3.out.dl r hd; omega
    case h0 => exact ⟨sl2, H3.out, List.nodup_nil, by simp [gl]⟩
    case assign =>
      intro l x W K hK
      simp only [List.setIfInBounds_toArray, List.set_cons_succ, List.set_cons_zero]
      gi_wp2
      exact hK
    case body =>
      rintro l pre x W ⟨sl', hf, h1, h2⟩ hx hfx
      have c3 : W.cell? ⟨y.heap.size, 0, none⟩ = some (.pointer (some ⟨bb, 0, none⟩)) := (cell_same (hf.kp y.heap.size hd3) _).trans HAV.out
      obtain ⟨hxn, ht0, ht1⟩ := HTO.out x hx hfx
      obtain ⟨qs, cs, rfl, hsv⟩ := HSV.out
      obtain ⟨b2, o2, rfl, hDb, hxs⟩ := hsv (by intro e; rw [e] at hxn; simp at hxn)
      obtain ⟨qf, fc, hiv, hcell⟩ := hxs x hxn
      have cto : W.cell? ⟨b2, o2 + x * 7 + 4, none⟩ = some (.int .i64 ss[x].to) := (cell_same ((hf.kp b2 (HD1.out b2 hDb)).trans (HV0.out b2 hDb)) _).trans (hcell 4 _ rfl)
      have cst : W.cell? ⟨bb, 0, none⟩ = some (.slice (some ⟨b2, o2, none⟩) ss.length cs) := (hf.at (by omega)).trans r0
      obtain ⟨m, hm⟩ : ∃ m : Nat, ss[x].to = (m : Int) := ⟨ss[x].to.toNat, by omega⟩
      rw [hm] at cto
      have hll := nd_len h1 h2
      have HRE : ∀ n : Nat, CallsIn Fence.wide n Tryd.prog 95 #[.pointer (some ⟨bb, 326, none⟩), .int .i64 (m : Nat)] W.drew fun e y' => e = .returned (.tuple #[]) ∧ ∃ sl', FS (Dn D3 W.drew) B W.drew y' bb 326 144 R0 (rch (gl ss pre) m) (rch (gl ss pre) m) sl' := fun n => callsIn_wide.2 (reachS_any hf.drew.wide (s := m) (by omega) (by omega))
      have HRH := Lib.hid HRE
      clear HRE
      have HTN : Hid (gl ss (pre ++ [x]) = rch (gl ss pre) m) := Lib.hid (by
        unfold gl toN
        rw [List.foldl_append]
        simp only [List.foldl_cons, List.foldl_nil, List.getElem?_eq_getElem hxn, hm, Int.toNat_natCast])
      have hmlt : m < ss.length := by omega
      have HND := Lib.hid (rch_nd h1 m)
      have HLT : Hid (∀ q ∈ rch (gl ss pre) m, q < ss.length) := Lib.hid fun q hq => by
        rcases mem_rch.1 hq with h | rfl
        · exact h2 q h
        · exact hmlt
      have HSS : Hid (∀ z, (∃ l' sl', FS D3 B v z bb 326 144 R0 l' l' sl') → z.cell? ⟨y.heap.size, 0, none⟩ = some (.pointer (some ⟨bb, 0, none⟩)) ∧ z.cell? ⟨bb, 0, none⟩ = some (.slice (some ⟨b2, o2, none⟩) ss.length cs) ∧ z.cell? ⟨b2, o2 + x * 7 + 4, none⟩ = some (.int .i64 (m : Nat))) := Lib.hid fun z hz => by
        obtain ⟨l', sl', hz⟩ := hz
        exact ⟨(cell_same (hz.kp y.heap.size hd3) _).trans HAV.out, (hz.at (by omega)).trans r0, by have h4 : z.cell? ⟨b2, o2 + x * 7 + 4, none⟩ = some (.int .i64 ss[x].to) := (cell_same ((hz.kp b2 (HD1.out b2 hDb)).trans (HV0.out b2 hDb)) _).trans (hcell 4 _ rfl); rw [hm] at h4; exact h4⟩
      have hxI : (x : Int) < (ss.length : Int) := by omega
      have hxI0 : ¬ (x : Int) < 0 := by omega
      have HFW := Lib.hid hf
      clear hsv hxs hcell hiv c3 cto cst hf h1 h2
      gi_wp2
      refine wpIn_region_heldR (S := fun z => ∃ l' sl', FS D3 B v z bb 326 144 R0 l' l' sl') (by kernel_rfl) ⟨_, _, HFW.out.drew⟩ (fun hHeld => ?_)
      refine wpAnyR_take (i := 0) (v := (.pointer (some ⟨bb, 0, none⟩))) (fun _ => trivial) rfl (by kernel_rfl) (by kernel_rfl) (by kernel_rfl) (by kernel_rfl) (fun _ _ _ h => h) (Or.inl ⟨by rfl, by (intro w hSw; have h1 := (HSS.out w hSw).1; have h2 := (HSS.out w hSw).2.1; have h3 := (HSS.out w hSw).2.2; go_simp)⟩) hHeld ?_
      (try simp only [Act.put, List.getElem_toArray, List.getElem_cons_zero, List.getElem_cons_succ, List.setIfInBounds_toArray, List.set_cons_zero, List.set_cons_succ])
      refine wpAnyR_take (i := 1) (v := (.pointer (some ⟨bb, 0, none⟩))) (fun _ => trivial) rfl (by kernel_rfl) (by kernel_rfl) (by kernel_rfl) (by kernel_rfl) (fun _ _ _ h => h) (Or.inl ⟨by rfl, by (intro w hSw; (try dsimp only at hSw); go_simp)⟩) hHeld ?_
      (try simp only [Act.put, List.getElem_toArray, List.getElem_cons_zero, List.getElem_cons_succ, List.setIfInBounds_toArray, List.set_cons_zero, List.set_cons_succ])
      refine wpAnyR_take (i := 2) (v := (.pointer (some ⟨bb, 326, none⟩))) (fun _ => trivial) rfl (by kernel_rfl) (by kernel_rfl) (by kernel_rfl) (by kernel_rfl) (fun _ _ _ h => h) (Or.inl ⟨by rfl, by (intro w hSw; (try dsimp only at hSw); go_simp)⟩) hHeld ?_
      (try simp only [Act.put, List.getElem_toArray, List.getElem_cons_zero, List.getElem_cons_succ, List.setIfInBounds_toArray, List.set_cons_zero, List.set_cons_succ])
      refine wpAnyR_take (i := 3) (v := (.pointer (some ⟨bb, 0, none⟩))) (fun _ => trivial) rfl (by kernel_rfl) (by kernel_rfl) (by kernel_rfl) (by kernel_rfl) (fun _ _ _ h => h) (Or.inl ⟨by rfl, by (intro w hSw; have h1 := (HSS.out w hSw).1; have h2 := (HSS.out w hSw).2.1; have h3 := (HSS.out w hSw).2.2; go_simp)⟩) hHeld ?_
      (try simp only [Act.put, List.getElem_toArray, List.getElem_cons_zero, List.getElem_cons_succ, List.setIfInBounds_toArray, List.set_cons_zero, List.set_cons_succ])
      refine wpAnyR_take (i := 4) (v := (.pointer (some ⟨bb, 0, none⟩))) (fun _ => trivial) rfl (by kernel_rfl) (by kernel_rfl) (by kernel_rfl) (by kernel_rfl) (fun _ _ _ h => h) (Or.inl ⟨by rfl, by (intro w hSw; (try dsimp only at hSw); go_simp)⟩) hHeld ?_
      (try simp only [Act.put, List.getElem_toArray, List.getElem_cons_zero, List.getElem_cons_succ, List.setIfInBounds_toArray, List.set_cons_zero, List.set_cons_succ])
      refine wpAnyR_take (i := 5) (v := (.pointer (some ⟨bb, 0, none⟩))) (fun _ => trivial) rfl (by kernel_rfl) (by kernel_rfl) (by kernel_rfl) (by kernel_rfl) (fun _ _ _ h => h) (Or.inl ⟨by rfl, by (intro w hSw; (try dsimp only at hSw); go_simp)⟩) hHeld ?_
      (try simp only [Act.put, List.getElem_toArray, List.getElem_cons_zero, List.getElem_cons_succ, List.setIfInBounds_toArray, List.set_cons_zero, List.set_cons_succ])
      refine wpAnyR_take (i := 6) (v := (.slice (some ⟨b2, o2, none⟩) ss.length cs)) (fun _ => trivial) rfl (by kernel_rfl) (by kernel_rfl) (by kernel_rfl) (by kernel_rfl) (fun _ _ _ h => h) (Or.inl ⟨by rfl, by (intro w hSw; have h1 := (HSS.out w hSw).1; have h2 := (HSS.out w hSw).2.1; have h3 := (HSS.out w hSw).2.2; go_simp)⟩) hHeld ?_
      (try simp only [Act.put, List.getElem_toArray, List.getElem_cons_zero, List.getElem_cons_succ, List.setIfInBounds_toArray, List.set_cons_zero, List.set_cons_succ])
      refine wpAnyR_take (i := 7) (v := (.int .i64 (x : Nat))) (fun _ => trivial) rfl (by kernel_rfl) (by kernel_rfl) (by kernel_rfl) (by kernel_rfl) (fun _ _ _ h => h) (Or.inl ⟨by rfl, by (intro w hSw; (try dsimp only at hSw); go_simp)⟩) hHeld ?_
      (try simp only [Act.put, List.getElem_toArray, List.getElem_cons_zero, List.getElem_cons_succ, List.setIfInBounds_toArray, List.set_cons_zero, List.set_cons_succ])
      refine wpAnyR_take (i := 8) (v := (.pointer (some ⟨b2, o2 + x * 7, none⟩))) (fun _ => trivial) rfl (by kernel_rfl) (by kernel_rfl) (by kernel_rfl) (by kernel_rfl) (fun _ _ _ h => h) (Or.inl ⟨by rfl, by (intro w hSw; (try dsimp only at hSw); go_simp)⟩) hHeld ?_
      (try simp only [Act.put, List.getElem_toArray, List.getElem_cons_zero, List.getElem_cons_succ, List.setIfInBounds_toArray, List.set_cons_zero, List.set_cons_succ])
      refine wpAnyR_take (i := 9) (v := (.pointer (some ⟨b2, o2 + x * 7 + 4, none⟩))) (fun _ => trivial) rfl (by kernel_rfl) (by kernel_rfl) (by kernel_rfl) (by kernel_rfl) (fun _ _ _ h => h) (Or.inl ⟨by rfl, by (intro w hSw; (try dsimp only at hSw); go_simp)⟩) hHeld ?_
      (try simp only [Act.put, List.getElem_toArray, List.getElem_cons_zero, List.getElem_cons_succ, List.setIfInBounds_toArray, List.set_cons_zero, List.set_cons_succ])
      refine wpAnyR_take (i := 10) (v := (.int .i64 (m : Nat))) (fun _ => trivial) rfl (by kernel_rfl) (by kernel_rfl) (by kernel_rfl) (by kernel_rfl) (fun _ _ _ h => h) (Or.inl ⟨by rfl, by (intro w hSw; have h1 := (HSS.out w hSw).1; have h2 := (HSS.out w hSw).2.1; have h3 := (HSS.out w hSw).2.2; go_simp)⟩) hHeld ?_
      (try simp only [Act.put, List.getElem_toArray, List.getElem_cons_zero, List.getElem_cons_succ, List.setIfInBounds_toArray, List.set_cons_zero, List.set_cons_succ])
      refine wpAnyR_one (i := 11) (by kernel_rfl) rfl (fun K hK => ?_)
      rw [if_pos (by rfl)]
      gi_wp2_with (refine ⟨trivial, ?_⟩; refine (CallsIn.inRound l (HRH.out _)).mono ?_; rintro _ w9 ⟨rfl, sl9, h9⟩)
      have h10 := HFW.out.drew.narrow h9
      refine hK _ _ ⟨_, _, h10⟩ ?_
      refine wpAnyR_done (by kernel_rfl) ?_ _
      exact ⟨rfl, ⟨h9.bel.size, fun j ob hj hk ho => (h9.keeps (C := 0)).same j ob (Nat.zero_le _) hk ho⟩, sl9, by rw [HTN.out]; exact h10, by rw [HTN.out]; exact HND.out, by rw [HTN.out]; exact HLT.out⟩
    case done =>
      rintro D9 W hD9 ⟨sl', hf, h1, h2⟩ hK
      have HF1 := Lib.hid hf
      have HN1 := Lib.hid h1
      have HB1 := Lib.hid h2
      have HK9 := Lib.hid hK
      have HBD9 : Hid (B ≤ D9) := Lib.hid (by have := H3.out.sz; omega)
      have HND9 : Hid (¬ D3 D9) := Lib.hid (fun hd => by have := H3.out.dl D9 hd; omega)
      clear hf h1 h2 hK
      have HSS : Hid (∀ z, (∃ l' sl', FS D3 B v z bb 326 144 R0 l' l' sl') → z.cell? ⟨y.heap.size, 0, none⟩ = some (.pointer (some ⟨bb, 0, none⟩)) ∧ z.cell? ⟨bb, 1, none⟩ = some fsl) := Lib.hid fun z hz => by
        obtain ⟨l', sl', hz⟩ := hz
        exact ⟨(cell_same (hz.kp y.heap.size hd3) _).trans HAV.out, (hz.at (by omega)).trans r1⟩
      have HSP : Hid (Calls Tryd.prog 96 #[.pointer (some ⟨bb, 326, none⟩), fsl] W.drew fun e y' => e = .returned (.tuple #[]) ∧ ∃ sl', FS (Dn D3 W.drew) B W.drew y' bb 326 144 R0 (goF ss (ss.length + 1) 0 (gl ss ((List.range 4096).filter fun x => fs x && fb x))) (goF ss (ss.length + 1) 0 (gl ss ((List.range 4096).filter fun x => fs x && fb x))) sl') := Lib.hid (spread_any HF1.out.drew.wide hn rfl (HNV.out.mono (fun b h => .inl (HD1.out b h)) (fun b h _ => (HF1.out.kp b (HD1.out b h)).trans (HV0.out b h))) HFR.out HFL.out HN1.out HB1.out)
      obtain ⟨LL, hLL⟩ : ∃ LL, goF ss (ss.length + 1) 0 (gl ss ((List.range 4096).filter fun x => fs x && fb x)) = LL := ⟨_, rfl⟩
      rw [hLL] at HSP
      have HLL := Lib.hid hLL
      clear hLL
      gi_wp2
      refine Code.wp_mono (Q := fun e a z => e = .normal ∧ a = { tmps := #[.pointer (some ⟨bb, 0, none⟩), .int .i64 (k : Nat), .int .i64 (s : Nat), .pointer (some ⟨y.heap.size, 0, none⟩), undef, undef, Value.pointer (some ⟨T6, 0, none⟩), undef, .pointer (some ⟨bb, 0, none⟩), .pointer (some ⟨bb, 0, none⟩), .pointer (some ⟨bb, 326, none⟩), .tuple #[], .pointer (some ⟨bb, 0, none⟩), .pointer (some ⟨bb, 0, none⟩), .pointer (some ⟨bb, 323, none⟩), .slice (some ⟨g, 0, none⟩) mg cg, .int .i64 (k : Nat), .pointer (some ⟨g, k * 64, none⟩), .pointer (some ⟨bb, 0, none⟩), .pointer (some ⟨bb, 0, none⟩), .pointer (some ⟨bb, 322, none⟩), .slice (some ⟨h, 0, none⟩) mh ch, .int .i64 (s : Nat), .pointer (some ⟨h, s * 64, none⟩), mv, Value.func (Fn.func 119) #[Value.pointer (some ⟨T6, 0, none⟩)] #[], undef, undef, undef, undef, undef, undef, undef, undef, undef, undef, undef, undef, undef, (.pointer (some ⟨bb, 0, none⟩)), (.pointer (some ⟨bb, 0, none⟩)), (.pointer (some ⟨bb, 326, none⟩)), (.pointer (some ⟨bb, 0, none⟩)), (.pointer (some ⟨bb, 0, none⟩)), (.pointer (some ⟨bb, 1, none⟩)), fsl, (.tuple #[])], defers := [{ target := .collected D9, args := #[] }] } ∧ ∃ sl9, FS (Dn D3 W.drew) B W.drew z bb 326 144 R0 LL LL sl9) ?next2 ?region2
      case region2 =>
        refine wp_region_held_drew (S := fun z => ∃ l' sl', FS D3 B v z bb 326 144 R0 l' l' sl') (by kernel_rfl) ⟨_, _, HF1.out.drew⟩ (fun hHeld => ?_)
        refine wpAnyH_take (i := 0) (v := (.pointer (some ⟨bb, 0, none⟩))) rfl (by kernel_rfl) (by kernel_rfl) (by kernel_rfl) (fun _ _ _ h => (by obtain ⟨h, _⟩ := h; cases h)) (Or.inl ⟨by rfl, by (intro w hSw; have h1 := (HSS.out w hSw).1; have h2 := (HSS.out w hSw).2; go_simp)⟩) hHeld ?_
        (try simp only [Act.put, List.getElem_toArray, List.getElem_cons_zero, List.getElem_cons_succ, List.setIfInBounds_toArray, List.set_cons_zero, List.set_cons_succ])
        refine wpAnyH_take (i := 1) (v := (.pointer (some ⟨bb, 0, none⟩))) rfl (by kernel_rfl) (by kernel_rfl) (by kernel_rfl) (fun _ _ _ h => (by obtain ⟨h, _⟩ := h; cases h)) (Or.inl ⟨by rfl, by (intro w hSw; (try dsimp only at hSw); go_simp)⟩) hHeld ?_
        (try simp only [Act.put, List.getElem_toArray, List.getElem_cons_zero, List.getElem_cons_succ, List.setIfInBounds_toArray, List.set_cons_zero, List.set_cons_succ])
        refine wpAnyH_take (i := 2) (v := (.pointer (some ⟨bb, 326, none⟩))) rfl (by kernel_rfl) (by kernel_rfl) (by kernel_rfl) (fun _ _ _ h => (by obtain ⟨h, _⟩ := h; cases h)) (Or.inl ⟨by rfl, by (intro w hSw; (try dsimp only at hSw); go_simp)⟩) hHeld ?_
        (try simp only [Act.put, List.getElem_toArray, List.getElem_cons_zero, List.getElem_cons_succ, List.setIfInBounds_toArray, List.set_cons_zero, List.set_cons_succ])
        refine wpAnyH_take (i := 3) (v := (.pointer (some ⟨bb, 0, none⟩))) rfl (by kernel_rfl) (by kernel_rfl) (by kernel_rfl) (fun _ _ _ h => (by obtain ⟨h, _⟩ := h; cases h)) (Or.inl ⟨by rfl, by (intro w hSw; have h1 := (HSS.out w hSw).1; have h2 := (HSS.out w hSw).2; go_simp)⟩) hHeld ?_
        (try simp only [Act.put, List.getElem_toArray, List.getElem_cons_zero, List.getElem_cons_succ, List.setIfInBounds_toArray, List.set_cons_zero, List.set_cons_succ])
        refine wpAnyH_take (i := 4) (v := (.pointer (some ⟨bb, 0, none⟩))) rfl (by kernel_rfl) (by kernel_rfl) (by kernel_rfl) (fun _ _ _ h => (by obtain ⟨h, _⟩ := h; cases h)) (Or.inl ⟨by rfl, by (intro w hSw; (try dsimp only at hSw); go_simp)⟩) hHeld ?_
        (try simp only [Act.put, List.getElem_toArray, List.getElem_cons_zero, List.getElem_cons_succ, List.setIfInBounds_toArray, List.set_cons_zero, List.set_cons_succ])
        refine wpAnyH_take (i := 5) (v := (.pointer (some ⟨bb, 1, none⟩))) rfl (by kernel_rfl) (by kernel_rfl) (by kernel_rfl) (fun _ _ _ h => (by obtain ⟨h, _⟩ := h; cases h)) (Or.inl ⟨by rfl, by (intro w hSw; (try dsimp only at hSw); go_simp)⟩) hHeld ?_
        (try simp only [Act.put, List.getElem_toArray, List.getElem_cons_zero, List.getElem_cons_succ, List.setIfInBounds_toArray, List.set_cons_zero, List.set_cons_succ])
        refine wpAnyH_take (i := 6) (v := fsl) rfl (by kernel_rfl) (by kernel_rfl) (by kernel_rfl) (fun _ _ _ h => (by obtain ⟨h, _⟩ := h; cases h)) (Or.inl ⟨by rfl, by (intro w hSw; have h1 := (HSS.out w hSw).1; have h2 := (HSS.out w hSw).2; go_simp)⟩) hHeld ?_
        (try simp only [Act.put, List.getElem_toArray, List.getElem_cons_zero, List.getElem_cons_succ, List.setIfInBounds_toArray, List.set_cons_zero, List.set_cons_succ])
        refine wpAnyH_ready (rs := [7]) (by kernel_rfl) (by simp) ?_
        refine AllReadyH.cons rfl (fun K hK => ?_) (AllReadyH.nil)
        rw [if_pos (by rfl)]
        go_wp2_with fail
        refine HSP.out.mono ?_
        rintro _ w9 ⟨rfl, sl9, h9⟩
        have h10 := HF1.out.drew.narrow h9
        have H9 := Lib.hid h9
        refine hK.out _ _ ⟨_, _, h10⟩ (fun hHeld2 => ?_)
        refine wpAnyH_done (by kernel_rfl) ?_ _
        exact ⟨rfl, rfl, sl9, H9.out⟩
      case next2 =>
        rintro e a z ⟨rfl, rfl, sl9, h9⟩
        have H9 := Lib.hid h9
        clear h9
        have hK9 : z.heap[D9]? = some (.deferred (some [])) := (H9.out.kp D9 (.inr ⟨_, HK9.out, rfl⟩)).trans HK9.out
        go_wp2_with fail
        refine ⟨by simp, .inl ⟨_, _, rfl, run_takeDeferred hK9, ?_⟩⟩
        refine ⟨_, by simp [results, Tryd.results117, go_sem], rfl, ?_⟩
        have h10 := HF1.out.drew.narrow H9.out
        have h11 := h10.turn (row := some D9) (grownBy_putObj' z D9 (.deferred none)) (fun r e => by cases e; exact ⟨HBD9.out, HND9.out, _, hK9, rfl⟩)
        exact ⟨sl9, by unfold leadL; rw [HLL.out]; exact HBK.out _ _ _ h11⟩
  case region =>
    refine wp_region_held_drew (S := fun v => Below z2.heap.size z2 v) (by kernel_rfl) ((Below.refl _ _).drew) (fun hHeld => ?_)
    refine wpAnyH_take (i := 0) (v := (.pointer (some ⟨bb, 0, none⟩))) rfl (by kernel_rfl) (by kernel_rfl) (by kernel_rfl) (fun _ _ _ h => (by obtain ⟨_, h, _⟩ := h; cases h)) (Or.inl ⟨by rfl, by (intro w hSw; have h1 := HAZ.out w hSw; go_simp)⟩) hHeld ?_
    (try simp only [Act.put, List.getElem_toArray, List.getElem_cons_zero, List.getElem_cons_succ, List.setIfInBounds_toArray, List.set_cons_zero, List.set_cons_succ])
    refine wpAnyH_take (i := 1) (v := (.pointer (some ⟨bb, 0, none⟩))) rfl (by kernel_rfl) (by kernel_rfl) (by kernel_rfl) (fun _ _ _ h => (by obtain ⟨_, h, _⟩ := h; cases h)) (Or.inl ⟨by rfl, by (intro w hSw; (try dsimp only at hSw); go_simp)⟩) hHeld ?_
    (try simp only [Act.put, List.getElem_toArray, List.getElem_cons_zero, List.getElem_cons_succ, List.setIfInBounds_toArray, List.set_cons_zero, List.set_cons_succ])
    refine wpAnyH_take (i := 2) (v := (.pointer (some ⟨bb, 323, none⟩))) rfl (by kernel_rfl) (by kernel_rfl) (by kernel_rfl) (fun _ _ _ h => (by obtain ⟨_, h, _⟩ := h; cases h)) (Or.inl ⟨by rfl, by (intro w hSw; (try dsimp only at hSw); go_simp)⟩) hHeld ?_
    (try simp only [Act.put, List.getElem_toArray, List.getElem_cons_zero, List.getElem_cons_succ, List.setIfInBounds_toArray, List.set_cons_zero, List.set_cons_succ])
    refine wpAnyH_take (i := 3) (v := (.slice (some ⟨g, 0, none⟩) mg cg)) rfl (by kernel_rfl) (by kernel_rfl) (by kernel_rfl) (fun _ _ _ h => (by obtain ⟨_, h, _⟩ := h; cases h)) (Or.inl ⟨by rfl, by (intro w hSw; have h1 := HC5.out w hSw; go_simp)⟩) hHeld ?_
    (try simp only [Act.put, List.getElem_toArray, List.getElem_cons_zero, List.getElem_cons_succ, List.setIfInBounds_toArray, List.set_cons_zero, List.set_cons_succ])
    refine wpAnyH_take (i := 4) (v := (.int .i64 (k : Nat))) rfl (by kernel_rfl) (by kernel_rfl) (by kernel_rfl) (fun _ _ _ h => (by obtain ⟨_, h, _⟩ := h; cases h)) (Or.inl ⟨by rfl, by (intro w hSw; (try dsimp only at hSw); go_simp)⟩) hHeld ?_
    (try simp only [Act.put, List.getElem_toArray, List.getElem_cons_zero, List.getElem_cons_succ, List.setIfInBounds_toArray, List.set_cons_zero, List.set_cons_succ])
    refine wpAnyH_take (i := 5) (v := (.pointer (some ⟨g, k * 64, none⟩))) rfl (by kernel_rfl) (by kernel_rfl) (by kernel_rfl) (fun _ _ _ h => (by obtain ⟨_, h, _⟩ := h; cases h)) (Or.inl ⟨by rfl, by (intro w hSw; (try dsimp only at hSw); go_simp)⟩) hHeld ?_
    (try simp only [Act.put, List.getElem_toArray, List.getElem_cons_zero, List.getElem_cons_succ, List.setIfInBounds_toArray, List.set_cons_zero, List.set_cons_succ])
    refine wpAnyH_take (i := 6) (v := (.pointer (some ⟨bb, 0, none⟩))) rfl (by kernel_rfl) (by kernel_rfl) (by kernel_rfl) (fun _ _ _ h => (by obtain ⟨_, h, _⟩ := h; cases h)) (Or.inl ⟨by rfl, by (intro w hSw; have h1 := HAZ.out w hSw; go_simp)⟩) hHeld ?_
    (try simp only [Act.put, List.getElem_toArray, List.getElem_cons_zero, List.getElem_cons_succ, List.setIfInBounds_toArray, List.set_cons_zero, List.set_cons_succ])
    refine wpAnyH_take (i := 7) (v := (.pointer (some ⟨bb, 0, none⟩))) rfl (by kernel_rfl) (by kernel_rfl) (by kernel_rfl) (fun _ _ _ h => (by obtain ⟨_, h, _⟩ := h; cases h)) (Or.inl ⟨by rfl, by (intro w hSw; (try dsimp only at hSw); go_simp)⟩) hHeld ?_
    (try simp only [Act.put, List.getElem_toArray, List.getElem_cons_zero, List.getElem_cons_succ, List.setIfInBounds_toArray, List.set_cons_zero, List.set_cons_succ])
    refine wpAnyH_take (i := 8) (v := (.pointer (some ⟨bb, 322, none⟩))) rfl (by kernel_rfl) (by kernel_rfl) (by kernel_rfl) (fun _ _ _ h => (by obtain ⟨_, h, _⟩ := h; cases h)) (Or.inl ⟨by rfl, by (intro w hSw; (try dsimp only at hSw); go_simp)⟩) hHeld ?_
    (try simp only [Act.put, List.getElem_toArray, List.getElem_cons_zero, List.getElem_cons_succ, List.setIfInBounds_toArray, List.set_cons_zero, List.set_cons_succ])
    refine wpAnyH_take (i := 9) (v := (.slice (some ⟨h, 0, none⟩) mh ch)) rfl (by kernel_rfl) (by kernel_rfl) (by kernel_rfl) (fun _ _ _ h => (by obtain ⟨_, h, _⟩ := h; cases h)) (Or.inl ⟨by rfl, by (intro w hSw; have h1 := HC4.out w hSw; go_simp)⟩) hHeld ?_
    (try simp only [Act.put, List.getElem_toArray, List.getElem_cons_zero, List.getElem_cons_succ, List.setIfInBounds_toArray, List.set_cons_zero, List.set_cons_succ])
    refine wpAnyH_take (i := 10) (v := (.int .i64 (s : Nat))) rfl (by kernel_rfl) (by kernel_rfl) (by kernel_rfl) (fun _ _ _ h => (by obtain ⟨_, h, _⟩ := h; cases h)) (Or.inl ⟨by rfl, by (intro w hSw; (try dsimp only at hSw); go_simp)⟩) hHeld ?_
    (try simp only [Act.put, List.getElem_toArray, List.getElem_cons_zero, List.getElem_cons_succ, List.setIfInBounds_toArray, List.set_cons_zero, List.set_cons_succ])
    refine wpAnyH_take (i := 11) (v := (.pointer (some ⟨h, s * 64, none⟩))) rfl (by kernel_rfl) (by kernel_rfl) (by kernel_rfl) (fun _ _ _ h => (by obtain ⟨_, h, _⟩ := h; cases h)) (Or.inl ⟨by rfl, by (intro w hSw; (try dsimp only at hSw); go_simp)⟩) hHeld ?_
    (try simp only [Act.put, List.getElem_toArray, List.getElem_cons_zero, List.getElem_cons_succ, List.setIfInBounds_toArray, List.set_cons_zero, List.set_cons_succ])
    refine wpAnyH_ready (rs := [12, 13]) (by kernel_rfl) (by simp) ?_
    refine AllReadyH.cons rfl (fun K hK => ?_) (AllReadyH.cons rfl (fun K hK => ?_) AllReadyH.nil)
    · rw [if_pos (by rfl)]
      go_wp2_with fail
      refine (HMD.out _ (Below.refl _ _).drew).mono ?_
      rintro _ w2 ⟨rfl, hb⟩
      have hb2 : Below z2.heap.size z2 w2 := ((Below.refl _ _).drew).trans hb
      have hz2 := hb2.size
      refine hK.out _ _ hb2 (fun hHeld2 => ?_)
      clear hHeld hK
      have hHeld := hHeld2
      (try simp only [Act.put, List.getElem_toArray, List.getElem_cons_zero, List.getElem_cons_succ, List.setIfInBounds_toArray, List.set_cons_zero, List.set_cons_succ])
      refine wpAnyH_ready (rs := [13]) (by kernel_rfl) (by simp) ?_
      refine AllReadyH.cons rfl (fun K hK => ?_) (AllReadyH.nil)
      rw [if_pos (by rfl)]
      go_wp2_with fail
      refine at_K (fun v => Below z2.heap.size z2 v ∧ v.heap[w2.heap.size]? = some (.cells (sA noS) 139)) ⟨hb2.alloc hz2 _, by rw [← hzz]; exact heap_alloc_last w2 _⟩ fun w3 h3 => ?_
      refine hK.out _ _ h3.1 (fun hHeld2 => ?_)
      clear hHeld hK
      have hHeld := hHeld2
      (try simp only [Act.put, List.getElem_toArray, List.getElem_cons_zero, List.getElem_cons_succ, List.setIfInBounds_toArray, List.set_cons_zero, List.set_cons_succ])
      refine wpAnyH_ready (rs := [14]) (by kernel_rfl) (by simp) ?_
      refine AllReadyH.cons rfl (fun K hK => ?_) (AllReadyH.nil)
      rw [if_pos (by rfl)]
      refine wp_store_row 139 (.tmp 6) (.tmp 24) rfl w2.heap.size (sA fun x => fs x && fb x) rfl (show mv = _ from HMV.out.symm) 139 _ h3.2 (by rw [info139, sA_size]) (by rw [sA_size, sA_size]) (sA_one _) ?_
      have hbs := below_setRow h3.1 (g := w2.heap.size) (by omega) (sA fun x => fs x && fb x)
      refine hK.out _ _ hbs (fun hHeld3 => ?_)
      refine wpAnyH_done (by kernel_rfl) ?_ _
      exact ⟨w2.heap.size, rfl, rfl, hbs, by omega, setRow_heap _ w2.heap.size _ _ 139 (0, 0) h3.2⟩
    · rw [if_pos (by rfl)]
      go_wp2_with fail
      refine at_K (fun v => Below z2.heap.size z2 v ∧ v.heap[z2.heap.size]? = some (.cells (sA noS) 139)) ⟨((Below.refl _ _).drew).alloc (Nat.le_refl _) _, by rw [← hzz]; exact heap_alloc_last z2.drew _⟩ fun w2 h2 => ?_
      refine hK.out _ _ h2.1 (fun hHeld2 => ?_)
      clear hHeld hK
      have hHeld := hHeld2
      (try simp only [Act.put, List.getElem_toArray, List.getElem_cons_zero, List.getElem_cons_succ, List.setIfInBounds_toArray, List.set_cons_zero, List.set_cons_succ])
      refine wpAnyH_ready (rs := [12]) (by kernel_rfl) (by simp) ?_
      refine AllReadyH.cons rfl (fun K hK => ?_) (AllReadyH.nil)
      rw [if_pos (by rfl)]
      go_wp2_with fail
      refine (HMD.out _ h2.1).mono ?_
      rintro _ w3 ⟨rfl, hb⟩
      have hb3 : Below z2.heap.size z2 w3 := h2.1.trans (hb.mono h2.1.size)
      have hr3 := (hb.block _ (Array.getElem?_eq_some_iff.1 h2.2).1).trans h2.2
      refine hK.out _ _ hb3 (fun hHeld2 => ?_)
      clear hHeld hK
      have hHeld := hHeld2
      (try simp only [Act.put, List.getElem_toArray, List.getElem_cons_zero, List.getElem_cons_succ, List.setIfInBounds_toArray, List.set_cons_zero, List.set_cons_succ])
      refine wpAnyH_ready (rs := [14]) (by kernel_rfl) (by simp) ?_
      refine AllReadyH.cons rfl (fun K hK => ?_) (AllReadyH.nil)
      rw [if_pos (by rfl)]
      refine wp_store_row 139 (.tmp 6) (.tmp 24) rfl z2.heap.size (sA fun x => fs x && fb x) rfl (show mv = _ from HMV.out.symm) 139 _ hr3 (by rw [info139, sA_size]) (by rw [sA_size, sA_size]) (sA_one _) ?_
      have hbs := below_setRow hb3 (g := z2.heap.size) (by omega) (sA fun x => fs x && fb x)
      refine hK.out _ _ hbs (fun hHeld3 => ?_)
      refine wpAnyH_done (by kernel_rfl) ?_ _
      exact ⟨z2.heap.size, rfl, rfl, hbs, by omega, setRow_heap _ z2.heap.size _ _ 139 (0, 0) hr3⟩
end Go.Proofs.YthglciccejholaaDoor
