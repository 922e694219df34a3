/- Package nfa. -/
import Derived.Test.YtnhfeakndofokaaProg
import Derived.Test.YtnhfeakndofokaaY11
import Derived.Test.YtnhfeakndofokaaY9
import Derived.WalkKit
import Derived.WalkLawsBesides
import Derived.WalkSpells
import Derived.Outline
import Derived.Lib.Walk
import Derived.Lib.Hide
import Derived.Lib.Slices
import Derived.Lib.Strings
import Derived.RegionTactic
import Derived.LoopTactic
import Derived.Below
import Derived.IntWalk
import Derived.Deep.QuietTactic
import Derived.BigQuiet
import Derived.Deep.MidRow
import Derived.Maps.AppendAt
import Derived.Laws.Rows
import Derived.Laws.Tables
import Derived.Deep.WholeRow
import Derived.Deep.Cut
import Derived.Deep.CutRange
import Derived.Lib.SliceRun
import Derived.Laws.MakeOwn
import Derived.Deep.RegionLaw
import Derived.Deep.RegionLawGrows
namespace Go.Proofs.Ytnhfeakndofokaa
set_option linter.unusedSimpArgs false
set_option linter.unusedVariables false
set_option maxRecDepth 100000
open Go.RowKit
/- TwinNfa. -/
theorem info24r : (Try.prog.info? 24).map (fun i => (i.zero, i.size)) = some (some (.agg #[.int .i64 0, .slice none 0 0]), 2) := by kernel_rfl
theorem size24r : (Try.prog.info? 24).map (·.size) = some 2 := (zero_of_info info24r).2
theorem set_grown (w : World) (b i : Nat) (v : Value) : w.grownBy (w.setCell ⟨b, i, none⟩ v) (some b) := by
  have hb := (Below.refl 0 w).setCell (p := ⟨b, i, none⟩) (Nat.zero_le _) v
  exact ⟨hb.os, hb.tape, hb.output, hb.size, fun k _ hk => setCells_other (b := b) (by intro e; exact hk (by rw [e])) [v] i w⟩
theorem row_grown (w : World) (b : Nat) (cs : Array Value) : w.grownBy (w.setRow b cs) (some b) :=
  ⟨rfl, rfl, rfl, by simp, fun k _ hk => setRow_other w b k cs (by intro e; exact hk (by rw [e]))⟩
theorem TN.base {B C : Nat} {zs ms : List Nq} {sl : Value} {w : World} (h : TN B zs ms sl w) (hc : C ≤ B) : TN C zs ms sl w :=
  ⟨fun z hz => ⟨(h.1 z hz).1.elim fun g hg => ⟨g, hg.1, row_base hg.2 hc⟩, (h.1 z hz).2⟩, row_base h.2 hc⟩
theorem Sb.grown {w0 w w' : World} {L : List (Nat × Obj)} {row : Option Nat} (h : Sb w0 w L) (hg : w.grownBy w' row) (hr : ∀ g, row = some g → w0.heap.size ≤ g ∧ ∀ c ∈ L, c.1 ≠ g) : Sb w0 w' L :=
  ⟨below_grown h.1 hg (fun g e => (hr g e).1) h.1.size, fun c hc => ⟨(h.2 c hc).1, (hg.block _ (Array.getElem?_eq_some_iff.1 (h.2 c hc).2).1 (fun e => (hr c.1 e.symm).2 c hc rfl)).trans (h.2 c hc).2⟩⟩
theorem TN.other {B b : Nat} {zs ms : List Nq} {sl : Value} {w w' : World} (h : TN B zs ms sl w) (hg : w.grownBy w' (some b)) (h1 : ∀ z ∈ zs, ∀ g, z.2.1 = some ⟨g, 0, none⟩ → g ≠ b) (h2 : sl.ownBlock ≠ some b) : TN B zs ms sl w' :=
  ⟨fun z hz => ⟨(h.1 z hz).1.kept hg (fun g he e => h1 z hz g he (by simpa using e)), (h.1 z hz).2⟩, World.ownsRow.kept h.2 hg (.inr h2)⟩
set_option maxHeartbeats 16000000 in
theorem twin_nfa {D : Nat → Prop} {w : World} {st : Int} {ss : List Nst} {q : Option Addr} {c : Nat} (hD : ∀ b, D b → b < w.heap.size) (hSV : SV D w ss (.slice q ss.length c)) (hfl : ∀ s ∈ ss, s.fr.length ≤ 1000000) (hln : ss.length ≤ 1000000) :
    Calls Try.prog 11 #[nV st q ss.length c] w (TwN w st ss) := by
  obtain ⟨i0, hi, hz0, hz1, hz2⟩ := info_parts info49b
  have HSV := Lib.hid hSV
  have HFL := Lib.hid hfl
  have HD := Lib.hid hD
  have hz := zero49
  have hs0 := ((Sb.start w).alloc (.cells #[.int .i64 st, .slice q ss.length c] 24)).alloc (.cells #[.int .i64 0, .slice none 0 0] 24)
  have hs1 : (w.alloc (.cells #[.int .i64 st, .slice q ss.length c] 24)).heap.size = w.heap.size + 1 := by simp
  rw [hs1] at hs0
  have S0 := Lib.hid hs0
  have HGE : Hid (w.heap.size + 2 ≤ ((w.alloc (.cells #[.int .i64 st, .slice q ss.length c] 24)).alloc (.cells #[.int .i64 0, .slice none 0 0] 24)).heap.size) := Lib.hid (by simp)
  clear hSV hfl hD hs0 hs1
  unfold nV
  go_enter Try.func11, Try.ntmps11
  go_wp2_with fail
  go_loopw [3, 4] (fun sl i wr => ∃ (j : Nat) (zs : List Nq), i = .int .i64 (j : Nat) ∧ j ≤ ss.length ∧ Hid (zs.map (fun z : Nq => z.1) = ss.take j) ∧ Hid (TN (w.heap.size + 2) zs [] sl wr) ∧ Hid (Sb w wr [(w.heap.size + 1, (.cells #[.int .i64 0, .slice none 0 0] 24)), (w.heap.size, (.cells #[.int .i64 st, .slice q ss.length c] 24))])) (fun _ i _ => ss.length - (intOf i).toNat)
  case atStart => exact ⟨0, [], rfl, by omega, Lib.hid (by simp), Lib.hid (TN.nil _ _), S0⟩
  case round =>
  clear S0 HGE
  obtain ⟨j, zs, rfl, hj, HZ, HT, HS⟩ := hrel
  obtain ⟨wo, rfl⟩ : ∃ wo : World, wo = wr := ⟨_, rfl⟩
  have cq : wo.cell? ⟨w.heap.size, 1, none⟩ = some (.slice q ss.length c) := HS.out.tl.cell 1
  have hzl : zs.length = j := by
    have := congrArg List.length HZ.out
    simp at this
    omega
  obtain ⟨pz, cz, hsl⟩ := HT.out.form
  rw [List.append_nil, hzl] at hsl
  subst hsl
  have HZL := Lib.hid hzl
  clear hzl
  by_cases hlt : j < ss.length
  · skip
    obtain ⟨q', c', he, hSV⟩ := HSV.out
    cases he
    obtain ⟨bb, o, rfl, hDb, hx⟩ := hSV (by intro e; subst e; simp at hlt)
    obtain ⟨qf, f, hiv, hcell⟩ := hx j hlt
    have hbw := HD.out bb hDb
    have ce : ∀ i y, (stC (ss[j]).u (ss[j]).to (.slice qf (ss[j]).fr.length f) (ss[j]).rl)[i]? = some y → wo.cell? ⟨bb, o + j * 7 + i, none⟩ = some y := fun i y hy => (cell_same (HS.out.1.block bb hbw) _).trans (hcell i y hy)
    have hfl := HFL.out ss[j] (List.getElem_mem hlt)
    have hsj : ss.take (j + 1) = ss.take j ++ [ss[j]] := by rw [List.take_add_one, List.getElem?_eq_getElem hlt]; rfl
    obtain ⟨tg, htg⟩ : ∃ tg, (ss[j]).to = tg := ⟨_, rfl⟩
    obtain ⟨u, huu⟩ : ∃ u, (ss[j]).u = u := ⟨_, rfl⟩
    obtain ⟨rl, hrl⟩ : ∃ rl, (ss[j]).rl = rl := ⟨_, rfl⟩
    obtain ⟨fr, hfr⟩ : ∃ fr, (ss[j]).fr = fr := ⟨_, rfl⟩
    have hsq : ss[j] = ⟨u, tg, fr, rl⟩ := by rw [← htg, ← huu, ← hrl, ← hfr]
    rw [hsq] at hsj
    rw [htg, huu, hrl, hfr] at ce
    rw [hfr] at hiv hfl
    obtain ⟨frl, hfrl⟩ : ∃ frl, fr.length = frl := ⟨_, rfl⟩
    have HIV : Hid (IV D w fr (.slice qf fr.length f)) := Lib.hid hiv
    have HFN := Lib.hid hfl
    rw [hfrl] at ce
    have HFRL := Lib.hid hfrl
    have HSJ := Lib.hid hsj
    have d0 : wo.cell? ⟨bb, o + j * 7, none⟩ = some (.int .u64 (u 0)) := ce 0 _ rfl
    have d1 : wo.cell? ⟨bb, o + j * 7 + 1, none⟩ = some (.int .u64 (u 1)) := ce 1 _ rfl
    have d2 : wo.cell? ⟨bb, o + j * 7 + 2, none⟩ = some (.int .u64 (u 2)) := ce 2 _ rfl
    have d3 : wo.cell? ⟨bb, o + j * 7 + 3, none⟩ = some (.int .u64 (u 3)) := ce 3 _ rfl
    have d4 : wo.cell? ⟨bb, o + j * 7 + 4, none⟩ = some (.int .i64 tg) := ce 4 _ rfl
    have d5 : wo.cell? ⟨bb, o + j * 7 + 5, none⟩ = some (.slice qf frl f) := ce 5 _ rfl
    have d6 : wo.cell? ⟨bb, o + j * 7 + 6, none⟩ = some (.int .i64 rl) := ce 6 _ rfl
    have hltI : (j : Int) < (ss.length : Int) := by omega
    have hjI : ¬ (j : Int) < 0 := by omega
    have HS2 := Lib.hid (HS.out.alloc (.cells #[.int .u64 (u 0), .int .u64 (u 1), .int .u64 (u 2), .int .u64 (u 3), .int .i64 tg, .slice qf frl f, .int .i64 rl] 49))
    have HT2 := Lib.hid (HT.out.up ((Below.refl wo.heap.size wo).alloc (Nat.le_refl _) (.cells #[.int .u64 (u 0), .int .u64 (u 1), .int .u64 (u 2), .int .u64 (u 3), .int .i64 tg, .slice qf frl f, .int .i64 rl] 49)))
    have HWO := Lib.hid HS.out.tl.lt
    have HWO2 := Lib.hid HS.out.lt
    have HTL : Hid ((∀ z ∈ zs, ∀ g, z.2.1 = some ⟨g, 0, none⟩ → g < wo.heap.size) ∧ ∀ g, (Value.slice pz j cz).ownBlock = some g → w.heap.size + 2 ≤ g ∧ g < wo.heap.size) := Lib.hid ⟨fun z hz g he => ((HT.out.1 z hz).1.lt he).2, fun g hg => World.ownsRow.lt HT.out.2 g hg⟩
    clear hx hSV hcell hiv ce htg huu hrl hfr hsq hsj hfrl hfl HS HT
    go_upto_region 6 with fail
    refine at_world (fun z => Sb w z [(wo.heap.size, (.cells #[.int .u64 (u 0), .int .u64 (u 1), .int .u64 (u 2), .int .u64 (u 3), .int .i64 tg, .slice qf frl f, .int .i64 rl] 49)), (w.heap.size + 1, (.cells #[.int .i64 0, .slice none 0 0] 24)), (w.heap.size, (.cells #[.int .i64 st, .slice (some ⟨bb, o, none⟩) ss.length c] 24))] ∧ TN (w.heap.size + 2) zs [] (.slice pz j cz) z) ⟨HS2.out, HT2.out⟩ fun z hz9 => ?_
    have HS3 := Lib.hid hz9.1
    have HT3 := Lib.hid hz9.2
    have e5 : z.cell? ⟨wo.heap.size, 5, none⟩ = some (.slice qf frl f) := hz9.1.cell 5
    have hzs := hz9.1.1.size
    have HCC : Hid (Calls Try.prog 28 #[.slice qf frl f] z (TwI z fr)) := Lib.hid (by
      rw [← HFRL.out]
      exact twin_ints HFN.out (fun b hb => Nat.lt_of_lt_of_le (HD.out b hb) hzs) (HIV.out.mono (fun b h => h) (fun b hb _ => HS3.out.1.block b (HD.out b hb))))
    have hzl := hz9.1.lt
    clear hz9 HS2 HT2 d0 d1 d2 d3 d4 d5 d6 cq hzs
    go_wp2_with fail
    refine HCC.out.mono ?_
    rintro _ w7 ⟨_, rfl, ⟨g, cap, rfl, hrow⟩, hb⟩
    have hglt := hrow.lt g rfl
    have HS4 := Lib.hid (HS3.out.up hb)
    have HT4 := Lib.hid (HT3.out.up hb)
    have HR4 := Lib.hid hrow
    have c5 : w7.cell? ⟨wo.heap.size, 5, none⟩ = some (.slice qf frl f) := HS4.out.cell 5
    have z5 : w7.frozen? ⟨wo.heap.size, 5, none⟩ = false := HS4.out.free 5
    have hgw : wo.heap.size < g := by omega
    have HGW := Lib.hid hgw
    have HGR := Lib.hid (set_grown w7 wo.heap.size 5 (.slice (some ⟨g, 0, none⟩) fr.length cap))
    have HS5 : Hid (Sb w (w7.setCell ⟨wo.heap.size, 5, none⟩ (.slice (some ⟨g, 0, none⟩) fr.length cap)) [(wo.heap.size, (.cells #[.int .u64 (u 0), .int .u64 (u 1), .int .u64 (u 2), .int .u64 (u 3), .int .i64 tg, .slice (some ⟨g, 0, none⟩) fr.length cap, .int .i64 rl] 49)), (w.heap.size + 1, (.cells #[.int .i64 0, .slice none 0 0] 24)), (w.heap.size, (.cells #[.int .i64 st, .slice (some ⟨bb, o, none⟩) ss.length c] 24))]) := Lib.hid (by
      have h := HS4.out.set (i := 5) (.slice (some ⟨g, 0, none⟩) fr.length cap) (by
        intro x hx
        simp only [List.mem_cons, List.mem_nil_iff, or_false] at hx
        have h1 := HWO.out
        have h2 := HWO2.out
        rcases hx with rfl | rfl
        · exact Nat.ne_of_lt h2
        · exact Nat.ne_of_lt h1)
      exact h)
    have HT5 : Hid (TN (w.heap.size + 2) zs [] (.slice pz j cz) (w7.setCell ⟨wo.heap.size, 5, none⟩ (.slice (some ⟨g, 0, none⟩) fr.length cap))) := Lib.hid (HT4.out.other HGR.out (fun z hz g he => by have := HTL.out.1 z hz g he; omega) (fun e => by have := HTL.out.2 _ e; omega))
    have HR5 : Hid ((w7.setCell ⟨wo.heap.size, 5, none⟩ (.slice (some ⟨g, 0, none⟩) fr.length cap)).ownsRow z.heap.size 3 1 (.slice (some ⟨g, 0, none⟩) (fr.length + 3) cap) (fr.length + 3) (zi (fr ++ mk7 3))) := Lib.hid (World.ownsRow.kept HR4.out HGR.out (.inr (fun e => absurd (show g = wo.heap.size by simpa [Value.ownBlock] using e) (by have := HGW.out; omega))))
    have hzw : w.heap.size + 2 ≤ z.heap.size := by have := HWO2.out; omega
    have HZW := Lib.hid hzw
    clear hrow hb hglt hgw HS4 HT4 HR4 HGR HS3 HT3 e5 HCC hzw
    go_upto_region 7 with fail
    refine at_world (fun y => Sb w y [(wo.heap.size, (.cells #[.int .u64 (u 0), .int .u64 (u 1), .int .u64 (u 2), .int .u64 (u 3), .int .i64 tg, .slice (some ⟨g, 0, none⟩) fr.length cap, .int .i64 rl] 49)), (w.heap.size + 1, (.cells #[.int .i64 0, .slice none 0 0] 24)), (w.heap.size, (.cells #[.int .i64 st, .slice (some ⟨bb, o, none⟩) ss.length c] 24))] ∧ TN (w.heap.size + 2) zs [] (.slice pz j cz) y ∧ y.ownsRow z.heap.size 3 1 (.slice (some ⟨g, 0, none⟩) (fr.length + 3) cap) (fr.length + 3) (zi (fr ++ mk7 3))) ⟨HS5.out, HT5.out, HR5.out⟩ fun y hy => ?_
    have HS6 := Lib.hid hy.1
    have HT6 := Lib.hid hy.2.1
    have HR6 := Lib.hid hy.2.2
    clear hy HS5 HT5 HR5 c5 z5
    have hys := HS6.out.1.size
    have hy1 : (y.alloc (.cells #[.int .u64 (u 0), .int .u64 (u 1), .int .u64 (u 2), .int .u64 (u 3), .int .i64 tg, .slice (some ⟨g, 0, none⟩) fr.length cap, .int .i64 rl] 49)).heap.size = y.heap.size + 1 := by simp
    have HY1 := Lib.hid hy1
    have f0 : y.cell? ⟨wo.heap.size, 0, none⟩ = some (.int .u64 (u 0)) := HS6.out.cell 0
    have f1 : y.cell? ⟨wo.heap.size, 1, none⟩ = some (.int .u64 (u 1)) := HS6.out.cell 1
    have f2 : y.cell? ⟨wo.heap.size, 2, none⟩ = some (.int .u64 (u 2)) := HS6.out.cell 2
    have f3 : y.cell? ⟨wo.heap.size, 3, none⟩ = some (.int .u64 (u 3)) := HS6.out.cell 3
    have f4 : y.cell? ⟨wo.heap.size, 4, none⟩ = some (.int .i64 tg) := HS6.out.cell 4
    have f5 : y.cell? ⟨wo.heap.size, 5, none⟩ = some (.slice (some ⟨g, 0, none⟩) fr.length cap) := HS6.out.cell 5
    have f6 : y.cell? ⟨wo.heap.size, 6, none⟩ = some (.int .i64 rl) := HS6.out.cell 6
    have HG0 : Hid (y.grownBy (y.alloc (.cells #[.int .u64 (u 0), .int .u64 (u 1), .int .u64 (u 2), .int .u64 (u 3), .int .i64 tg, .slice (some ⟨g, 0, none⟩) fr.length cap, .int .i64 rl] 49)) none) := Lib.hid (by
      have hb := (Below.refl y.heap.size y).alloc (Nat.le_refl _) (.cells #[.int .u64 (u 0), .int .u64 (u 1), .int .u64 (u 2), .int .u64 (u 3), .int .i64 tg, .slice (some ⟨g, 0, none⟩) fr.length cap, .int .i64 rl] 49)
      exact ⟨hb.os, hb.tape, hb.output, hb.size, fun k hk _ => hb.block k hk⟩)
    have HT7 := Lib.hid (HT6.out.up ((Below.refl y.heap.size y).alloc (Nat.le_refl _) (.cells #[.int .u64 (u 0), .int .u64 (u 1), .int .u64 (u 2), .int .u64 (u 3), .int .i64 tg, .slice (some ⟨g, 0, none⟩) fr.length cap, .int .i64 rl] 49)))
    have HS7 : Hid (Sb w (y.alloc (.cells #[.int .u64 (u 0), .int .u64 (u 1), .int .u64 (u 2), .int .u64 (u 3), .int .i64 tg, .slice (some ⟨g, 0, none⟩) fr.length cap, .int .i64 rl] 49)) [(w.heap.size + 1, (.cells #[.int .i64 0, .slice none 0 0] 24)), (w.heap.size, (.cells #[.int .i64 st, .slice (some ⟨bb, o, none⟩) ss.length c] 24))]) := Lib.hid ((HS6.out.alloc (.cells #[.int .u64 (u 0), .int .u64 (u 1), .int .u64 (u 2), .int .u64 (u 3), .int .i64 tg, .slice (some ⟨g, 0, none⟩) fr.length cap, .int .i64 rl] 49)).tl.tl)
    have HR7 := Lib.hid (World.ownsRow.alloc HR6.out (.cells #[.int .u64 (u 0), .int .u64 (u 1), .int .u64 (u 2), .int .u64 (u 3), .int .i64 tg, .slice (some ⟨g, 0, none⟩) fr.length cap, .int .i64 rl] 49))
    have HX4 : Hid ((y.alloc (.cells #[.int .u64 (u 0), .int .u64 (u 1), .int .u64 (u 2), .int .u64 (u 3), .int .i64 tg, .slice (some ⟨g, 0, none⟩) fr.length cap, .int .i64 rl] 49)).ownsRow (w.heap.size + 2) 49 7 (.slice pz j cz) j (flat (zs.map zC))) := Lib.hid (by
      have h := HT7.out.2
      rw [List.append_nil, HZL.out] at h
      exact h)
    have HC0 : Hid (∀ j' v, (stC u tg (.slice (some ⟨g, 0, none⟩) fr.length cap) rl).toList[j']? = some v → (y.alloc (.cells #[.int .u64 (u 0), .int .u64 (u 1), .int .u64 (u 2), .int .u64 (u 3), .int .i64 tg, .slice (some ⟨g, 0, none⟩) fr.length cap, .int .i64 rl] 49)).cell? ((⟨y.heap.size, 0, none⟩ : Addr).add j') = some v) := Lib.hid fun j' v hj => by
      rw [Addr.add_mid, cell_of_row _ y.heap.size (0 + j') _ 49 (0, 0) (heap_alloc_last y _), Nat.zero_add]
      rw [Array.getElem?_toList] at hj; exact hj
    have HYS := Lib.hid (show w.heap.size + 2 ≤ (y.alloc (.cells #[.int .u64 (u 0), .int .u64 (u 1), .int .u64 (u 2), .int .u64 (u 3), .int .i64 tg, .slice (some ⟨g, 0, none⟩) fr.length cap, .int .i64 rl] 49)).heap.size by have := HS6.out.tl.lt; omega)
    clear HS6 HT6 HR6 hys hy1
    go_wp2_with (at_builtin; refine wpList_append_own_at _ rfl (.tmp 23) (.tmp 25) 22 rfl (w.heap.size + 2) 49 i0 _ 7 72 Try.underlying22 hi hz0 hz1 hz2 rfl (by decide) (.slice pz j cz) j (flat (zs.map zC)) rfl ?c0 ⟨y.heap.size, 0, none⟩ 1 1 (stC u tg (.slice (some ⟨g, 0, none⟩) fr.length cap) rl).toList rfl rfl ?c1 ?c2 ?c3 ?c4 ?c5 ?_)
    case c0 => exact HX4.out
    case c1 => exact HC0.out
    case c2 => intro v hv; simp [stC] at hv; rcases hv with rfl | rfl | rfl | rfl | rfl | rfl | rfl <;> rfl
    case c3 => unfold maxLen; omega
    case c4 => omega
    case c5 => exact HYS.out
    intro v8 w8 hown8 hg8 _ hat8
    have HTA : Hid (TN (w.heap.size + 2) (zs ++ [(⟨u, tg, fr, rl⟩, some ⟨g, 0, none⟩, cap)]) [] v8 w8) := Lib.hid (HT7.out.app (z := (⟨u, tg, fr, rl⟩, some ⟨g, 0, none⟩, cap)) ⟨g, rfl, row_base HR7.out HZW.out⟩ (fun g' he e => by
      have e2 : g = g' := by simpa using he
      have h1 := HTL.out.2 _ e.symm
      have h2 := HGW.out
      omega) (by rw [HZL.out]; exact hown8) hg8 (by rw [HY1.out]; exact hat8))
    have HSA : Hid (Sb w w8 [(w.heap.size + 1, (.cells #[.int .i64 0, .slice none 0 0] 24)), (w.heap.size, (.cells #[.int .i64 st, .slice (some ⟨bb, o, none⟩) ss.length c] 24))]) := Lib.hid (HS7.out.grown hg8 (fun g' e => by
      have h1 := HTL.out.2 _ e
      refine ⟨by omega, fun x hx => ?_⟩
      simp only [List.mem_cons, List.mem_nil_iff, or_false] at hx
      rcases hx with rfl | rfl
      · show w.heap.size + 1 ≠ g'; omega
      · show w.heap.size ≠ g'; omega))
    have HZA : Hid ((zs ++ [((⟨u, tg, fr, rl⟩, some ⟨g, 0, none⟩, cap) : Nq)]).map (fun z : Nq => z.1) = ss.take (j + 1)) := Lib.hid (by rw [HSJ.out, List.map_append, HZ.out]; rfl)
    clear hown8 hg8 hat8 HX4 HC0 HYS HS7 HT7 HR7 HG0 f0 f1 f2 f3 f4 f5 f6
    go_wp2_with fail
    go_roundw
    case rel => exact ⟨j + 1, _, by go_num, by omega, HZA, HTA, HSA⟩
    case measure => simp [intOf]; omega
  · obtain rfl : j = ss.length := by omega
    have hltI : ¬ (ss.length : Int) < (ss.length : Int) := by omega
    have HZ2 : Hid (zs.map (fun z : Nq => z.1) = ss) := Lib.hid (by have := HZ.out; rwa [List.take_length] at this)
    have HT0 : Hid (TN (w.heap.size + 2) zs (mkqs 0) (.slice pz ss.length cz) wo) := HT
    clear HT HZ
    go_wp2_with fail
    go_loopw [3, 6] (fun sl i wr => ∃ m : Nat, i = .int .i64 (m : Nat) ∧ m ≤ 3 ∧ Hid (TN (w.heap.size + 2) zs (mkqs m) sl wr) ∧ Hid (Sb w wr [(w.heap.size + 1, (.cells #[.int .i64 0, .slice none 0 0] 24)), (w.heap.size, (.cells #[.int .i64 st, .slice q ss.length c] 24))])) (fun _ i _ => 3 - (intOf i).toNat)
    case atStart => exact ⟨0, rfl, by omega, HT0, HS⟩
    case round =>
    clear HT0 HS cq
    obtain ⟨m, rfl, hm, HT, HS⟩ := hrel
    obtain ⟨wv, rfl⟩ : ∃ wv : World, wv = wr := ⟨_, rfl⟩
    obtain ⟨pm, cm, hsl⟩ := HT.out.form
    have hzm : (zs ++ mkqs m).length = ss.length + m := by rw [List.length_append, mkqs_len, HZL.out]
    rw [hzm] at hsl
    subst hsl
    have HZM := Lib.hid hzm
    clear hzm
    by_cases hm3 : m < 3
    · have hm3I : (m : Int) < 3 := by omega
      have HT7 := Lib.hid (HT.out.up ((Below.refl wv.heap.size wv).alloc (Nat.le_refl _) (.cells #[.int .u64 0, .int .u64 0, .int .u64 0, .int .u64 0, .int .i64 (-7000 - (m : Int)), .slice none 0 0, .int .i64 0] 49)))
      have HS7 : Hid (Sb w (wv.alloc (.cells #[.int .u64 0, .int .u64 0, .int .u64 0, .int .u64 0, .int .i64 (-7000 - (m : Int)), .slice none 0 0, .int .i64 0] 49)) [(w.heap.size + 1, (.cells #[.int .i64 0, .slice none 0 0] 24)), (w.heap.size, (.cells #[.int .i64 st, .slice q ss.length c] 24))]) := Lib.hid (HS.out.alloc (.cells #[.int .u64 0, .int .u64 0, .int .u64 0, .int .u64 0, .int .i64 (-7000 - (m : Int)), .slice none 0 0, .int .i64 0] 49)).tl
      have HX4 : Hid ((wv.alloc (.cells #[.int .u64 0, .int .u64 0, .int .u64 0, .int .u64 0, .int .i64 (-7000 - (m : Int)), .slice none 0 0, .int .i64 0] 49)).ownsRow (w.heap.size + 2) 49 7 (.slice pm (ss.length + m) cm) (ss.length + m) (flat ((zs ++ mkqs m).map zC))) := Lib.hid (by
        have h := HT7.out.2
        rw [HZM.out] at h
        exact h)
      have HY1 : Hid ((wv.alloc (.cells #[.int .u64 0, .int .u64 0, .int .u64 0, .int .u64 0, .int .i64 (-7000 - (m : Int)), .slice none 0 0, .int .i64 0] 49)).heap.size = wv.heap.size + 1) := Lib.hid (by simp)
      have HC0 : Hid (∀ j' v, (zC (mkq m)).toList[j']? = some v → (wv.alloc (.cells #[.int .u64 0, .int .u64 0, .int .u64 0, .int .u64 0, .int .i64 (-7000 - (m : Int)), .slice none 0 0, .int .i64 0] 49)).cell? ((⟨wv.heap.size, 0, none⟩ : Addr).add j') = some v) := Lib.hid fun j' v hj => by
        rw [Addr.add_mid, cell_of_row _ wv.heap.size (0 + j') _ 49 (0, 0) (heap_alloc_last wv _), Nat.zero_add]
        rw [Array.getElem?_toList] at hj; exact hj
      have HYS := Lib.hid (show w.heap.size + 2 ≤ (wv.alloc (.cells #[.int .u64 0, .int .u64 0, .int .u64 0, .int .u64 0, .int .i64 (-7000 - (m : Int)), .slice none 0 0, .int .i64 0] 49)).heap.size by have := HS.out.lt; have := HY1.out; omega)
      have HOL := Lib.hid fun g (hg : (Value.slice pm (ss.length + m) cm).ownBlock = some g) => World.ownsRow.lt HX4.out g hg
      clear HS HT
      go_wp2_with (at_builtin; refine wpList_append_own_at _ rfl (.tmp 31) (.tmp 35) 22 rfl (w.heap.size + 2) 49 i0 _ 7 72 Try.underlying22 hi hz0 hz1 hz2 rfl (by decide) (.slice pm (ss.length + m) cm) (ss.length + m) (flat ((zs ++ mkqs m).map zC)) rfl ?c0 ⟨wv.heap.size, 0, none⟩ 1 1 (zC (mkq m)).toList rfl rfl ?c1 ?c2 ?c3 ?c4 ?c5 ?_)
      case c0 => exact HX4.out
      case c1 => exact HC0.out
      case c2 => intro v hv; simp [zC, stC, mkq] at hv; rcases hv with rfl | rfl | rfl | rfl <;> rfl
      case c3 => unfold maxLen; omega
      case c4 => omega
      case c5 => exact HYS.out
      intro v8 w8 hown8 hg8 _ hat8
      have HTA : Hid (TN (w.heap.size + 2) zs (mkqs (m + 1)) v8 w8) := Lib.hid (by
        rw [mkqs_succ]
        exact HT7.out.mark (by rw [HZM.out, List.map_append]; exact hown8) hg8 (by rw [HY1.out]; exact hat8))
      have HSA : Hid (Sb w w8 [(w.heap.size + 1, (.cells #[.int .i64 0, .slice none 0 0] 24)), (w.heap.size, (.cells #[.int .i64 st, .slice q ss.length c] 24))]) := Lib.hid (HS7.out.grown hg8 (fun g' e => by
        have h1 := HOL.out _ e
        refine ⟨by omega, fun x hx => ?_⟩
        simp only [List.mem_cons, List.mem_nil_iff, or_false] at hx
        rcases hx with rfl | rfl
        · show w.heap.size + 1 ≠ g'; omega
        · show w.heap.size ≠ g'; omega))
      clear hown8 hg8 hat8 HX4 HC0 HYS HS7 HT7 HOL HY1
      go_wp2_with fail
      go_roundw
      case rel => exact ⟨m + 1, by go_num, by omega, HTA, HSA⟩
      case measure => simp [intOf]; omega
    · obtain rfl : m = 3 := by omega
      obtain ⟨g, cap, hsl, hcap⟩ := row_own HT.out.2 (by rw [HZM.out]; omega)
      rw [HZM.out] at hcap
      have ha : pm = some ⟨g, 0, none⟩ ∧ cm = cap := by
        injection hsl with e1 e2 e3
        exact ⟨e1, e3⟩
      obtain ⟨rfl, rfl⟩ := ha
      have HT9 := Lib.hid HT.out
      have HGB := Lib.hid (World.ownsRow.lt HT.out.2 g rfl)
      have HSX : Sb w wv [(w.heap.size, (.cells #[.int .i64 st, .slice q ss.length c] 24)), (w.heap.size + 1, (.cells #[.int .i64 0, .slice none 0 0] 24))] := ⟨HS.out.1, fun x hx => HS.out.2 x (by
        simp only [List.mem_cons, List.mem_nil_iff, or_false] at hx ⊢
        exact hx.symm)⟩
      have c0 : wv.cell? ⟨w.heap.size, 0, none⟩ = some (.int .i64 st) := HSX.cell 0
      have c1 : wv.cell? ⟨w.heap.size, 1, none⟩ = some (.slice q ss.length c) := HSX.cell 1
      have z1 : wv.frozen? ⟨w.heap.size, 1, none⟩ = false := HSX.free 1
      have i1 : ((ss.length : Nat) : Int) ≤ (cm : Int) := by omega
      have i0' : (0 : Int) ≤ ((ss.length : Nat) : Int) := by omega
      have SB1 := HSX.set (i := 1) (.slice (some ⟨g, 0, none⟩) ss.length cm) (by simp)
      have SB2 := Lib.hid (SB1.sub (M := [(w.heap.size + 1, (.cells #[.int .i64 0, .slice none 0 0] 24))]) (by simp))
      have HY2 := Lib.hid SB2.out.heap
      have SB3 := Lib.hid (SB2.out.setRow (cs' := #[.int .i64 st, .slice (some ⟨g, 0, none⟩) ss.length cm]) (by simp))
      have HGR1 := Lib.hid (set_grown wv w.heap.size 1 (.slice (some ⟨g, 0, none⟩) ss.length cm))
      clear hsl HT SB1 HSX HS hcap
      go_wp2_with (refine wpList_store_row rfl 24 (.tmp 2) (.tmp 43) rfl (w.heap.size + 1) #[.int .i64 st, .slice (some ⟨g, 0, none⟩) ss.length cm] rfl rfl 24 _ HY2.out size24r rfl ?one ?_)
      case one => simp [Value.oneCell']
      refine bodyPost_ret (v := .agg #[.int .i64 st, .slice (some ⟨g, 0, none⟩) ss.length cm]) (results_cell_row rfl _ _ (w.heap.size + 1) 24 _ (0, 0) _ rfl (setRow_heap _ (w.heap.size + 1) _ _ 24 (0, 0) HY2.out) Try.underlying24 rfl size24r) rfl ⟨g, cm, zs, rfl, HZ2.out, ?_, SB3.out.1⟩
      have hL : ∀ z ∈ zs, ∀ g', z.2.1 = some ⟨g', 0, none⟩ → w.heap.size + 2 ≤ g' := fun z hz g' he => ((HT9.out.1 z hz).1.lt he).1
      have hG := HGB.out.1
      refine TN.base (B := w.heap.size + 2) ?_ (by omega)
      refine TN.other (b := w.heap.size + 1) (TN.other (b := w.heap.size) HT9.out HGR1.out (fun z hz g' he => by have := hL z hz g' he; omega) (fun e => absurd (show g = w.heap.size by simpa [Value.ownBlock] using e) (by omega))) (row_grown _ _ _) (fun z hz g' he => by have := hL z hz g' he; omega) ?_
      intro e
      have : g = w.heap.size + 1 := by simpa [Value.ownBlock] using e
      omega
end Go.Proofs.Ytnhfeakndofokaa
