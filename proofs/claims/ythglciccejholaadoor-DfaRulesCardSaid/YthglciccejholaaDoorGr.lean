/- Package dfa. -/
import Derived.Test.YthglciccejholaaDoorProg
import Derived.Test.YthglciccejholaaDoorV32
import Derived.Test.YthglciccejholaaDoorFl
import Derived.Test.YthglciccejholaaDoorV18
import Derived.RangeFuncNested
import Derived.RangeFuncBound
import Derived.RangeFuncCalls
import Derived.RangeFuncLeaves
import Derived.RangeFuncBox
import Derived.Shelf.Abstract
import Derived.Shelf.RegionOpen
import Derived.WalkKit
import Derived.OwnWalkIn
import Derived.TacticsInMore
import Derived.LoopNIn
import Derived.LoopIn
import Derived.Below
import Derived.Lib.Hide
import Derived.Lib.Walk
namespace Go.Proofs.YthglciccejholaaDoor
set_option linter.unusedSimpArgs false
set_option linter.unusedVariables false
set_option maxRecDepth 100000
open Go.RowKit Go.Shelf
/- automaton. -/
open Go.Maps
theorem SW.below {w z : World} {B b k : Nat} {f : Nat → Bool} (h : SW w b k f) (hb : Below B w z) (hlt : b < B) : SW z b k f := fun i hi => (cell_same (hb.block b hlt) _).trans (h i hi)
/-- What automaton reads. -/
structure AuH (D : Nat → Prop) (y : World) (bb g cap : Nat) (stp rsl : Value) (ss : List Nst) (sets : List (List Nat)) (rows : List (List Int)) (so : Nat → Nat) (nb : Nat) : Prop where
  lt : ∀ b, D b → b < y.heap.size
  c0 : y.cell? ⟨bb, 0, none⟩ = some stp
  sv : SV D y ss stp
  c323 : y.cell? ⟨bb, 323, none⟩ = some (.slice (some ⟨g, 0, none⟩) sets.length cap)
  gl : g < y.heap.size
  sw : ∀ k (h : k < sets.length), SW y g (k * 64) (mb sets[k])
  inb : ∀ l ∈ sets, ∀ x ∈ l, x < ss.length
  c325 : y.cell? ⟨bb, 325, none⟩ = some rsl
  nv : NV D y rows rsl
  ln : rows.length = sets.length
  ne : 0 < rows.length
  le : rows.length ≤ 4096
  so_ : ∀ i, i < 256 → y.cell? ⟨bb, 66 + i, none⟩ = some (.int .u8 (so i : Nat)) ∧ so i < nb
  nb_ : nb ≤ 256
  rws : ∀ row ∈ rows, row.length = nb ∧ ∀ x ∈ row, -9223372036854775808 ≤ x ∧ x ≤ 9223372036854775807
  tb : R5.Tb y
theorem AuH.up {D : Nat → Prop} {y z : World} {bb g cap : Nat} {stp rsl : Value} {ss : List Nst} {sets : List (List Nat)} {rows : List (List Int)} {so : Nat → Nat} {nb : Nat} (h : AuH D y bb g cap stp rsl ss sets rows so nb) (hb : Below y.heap.size y z) (h0 : 0 < y.heap.size) : AuH D z bb g cap stp rsl ss sets rows so nb := by
  have hbb := hb.block bb (blk_lt h.c0)
  exact ⟨fun b hd => Nat.lt_of_lt_of_le (h.lt b hd) hb.size, (cell_same hbb _).trans h.c0, h.sv.mono (fun _ h => h) (fun b hd _ => hb.block b (h.lt b hd)), (cell_same hbb _).trans h.c323, Nat.lt_of_lt_of_le h.gl hb.size, fun k hk => (h.sw k hk).below hb h.gl, h.inb, (cell_same hbb _).trans h.c325, h.nv.mono (fun _ h => h) (fun b hd _ => hb.block b (h.lt b hd)), h.ln, h.ne, h.le, fun i hi => ⟨(cell_same hbb _).trans (h.so_ i hi).1, (h.so_ i hi).2⟩, h.nb_, h.rws, h.tb.mono (hb.block 0 h0)⟩
structure DsH (cl : Nat → Nat) (ds : Array Value) (vn vr : Value) : Prop where
  sz : ds.size = 259
  one : ∀ v ∈ ds, v.oneCell' = true
  st : ds[0]? = some (.int .i64 0)
  cls : ∀ i, i < 256 → ds[1 + i]? = some (.int .u8 (cl i : Nat))
  nx : ds[257]? = some vn
  rl : ds[258]? = some vr
theorem DsH.start (cl : Nat → Nat) : DsH cl (dA cl) (.slice none 0 0) (.slice none 0 0) :=
  ⟨dA_size cl, dA_one cl, (dA_out cl (.inl rfl)).trans (by kernel_rfl), fun i hi => dA_get cl hi, (dA_out cl (.inr (by omega))).trans (by kernel_rfl), (dA_out cl (.inr (by omega))).trans (by kernel_rfl)⟩
theorem set_one {ds : Array Value} (h : ∀ v ∈ ds, v.oneCell' = true) (i : Nat) {x : Value} (hx : x.oneCell' = true) : ∀ v ∈ ds.setIfInBounds i x, v.oneCell' = true := fun v hv => by
  rcases Array.mem_or_eq_of_mem_setIfInBounds hv with h3 | h3
  · exact h v h3
  · rw [h3]; exact hx
theorem DsH.n {cl : Nat → Nat} {ds : Array Value} {vn vr : Value} (h : DsH cl ds vn vr) {x : Value} (hx : x.oneCell' = true) : DsH cl (ds.setIfInBounds 257 x) x vr := by
  have hs := h.sz
  refine ⟨by simpa using hs, set_one h.one _ hx, ?_, fun i hi => ?_, ?_, ?_⟩
  · rw [Array.getElem?_setIfInBounds_ne (by omega)]; exact h.st
  · rw [Array.getElem?_setIfInBounds_ne (by omega)]; exact h.cls i hi
  · rw [Array.getElem?_setIfInBounds]; simp; omega
  · rw [Array.getElem?_setIfInBounds_ne (by omega)]; exact h.rl
theorem DsH.r {cl : Nat → Nat} {ds : Array Value} {vn vr : Value} (h : DsH cl ds vn vr) {x : Value} (hx : x.oneCell' = true) : DsH cl (ds.setIfInBounds 258 x) vn x := by
  have hs := h.sz
  refine ⟨by simpa using hs, set_one h.one _ hx, ?_, fun i hi => ?_, ?_, ?_⟩
  · rw [Array.getElem?_setIfInBounds_ne (by omega)]; exact h.st
  · rw [Array.getElem?_setIfInBounds_ne (by omega)]; exact h.cls i hi
  · rw [Array.getElem?_setIfInBounds_ne (by omega)]; exact h.nx
  · rw [Array.getElem?_setIfInBounds]; simp; omega
set_option maxHeartbeats 16000000 in
theorem automaton_any {D : Nat → Prop} {y : World} {bb g cap : Nat} {stp rsl : Value} {ss : List Nst} {sets : List (List Nat)} {rows : List (List Int)} {so : Nat → Nat} {nb : Nat} (h : AuH D y bb g cap stp rsl ss sets rows so nb) (h0 : 0 < y.heap.size) :
    Calls Tryd.prog 57 #[.pointer (some ⟨bb, 0, none⟩)] y (AutP y.heap.size y (autX so ss sets rows) []) := by
  obtain ⟨i0, hi, hz0, hz1, hz2⟩ := info_parts info39g
  obtain ⟨j0, hj, hjz0, hjz1, hjz2⟩ := info_parts info3
  have hz := (zero_of_info info26r).1
  have hz45 := (zero_of_info info45z).1
  have HU := Lib.hid (fun (z : World) (hb : Below y.heap.size y z) => h.up hb h0)
  have HCL := Lib.hid (fun (z : World) (hb : Below y.heap.size y z) => classes_any (w := z) (bb := bb) (rsl := rsl) (rows := rows) (so := so) (HU.out z hb).c325 (HU.out z hb).nv (HU.out z hb).lt h.le (fun i hi => ⟨((HU.out z hb).so_ i hi).1, by have := h.nb_; have := (h.so_ i hi).2; omega⟩) (fun row hr => ⟨fun i hi => by rw [(h.rws row hr).1]; exact (h.so_ i hi).2, by rw [(h.rws row hr).1]; exact h.nb_, (h.rws row hr).2⟩))
  have hclt : (∀ i, i < 256 → (clsG so rows (fun _ => 0, 0)).1 i < (clsG so rows (fun _ => 0, 0)).2) ∧ (clsG so rows (fun _ => 0, 0)).2 ≤ 256 := by
    have hne := h.ne
    cases rows with
    | nil => simp at hne
    | cons r rs => exact clsG_lt so rs r _
  unfold AutP autX
  obtain ⟨⟨cl, m⟩, hR⟩ : ∃ R, clsG so rows (fun _ => 0, 0) = R := ⟨_, rfl⟩
  rw [hR] at HCL hclt ⊢
  clear hR
  simp only [List.length_map] at HCL hclt ⊢
  have HCT := Lib.hid hclt
  have hm := hclt.2
  have HH := Lib.hid h
  clear h hclt
  obtain ⟨b2, hb2⟩ : ∃ b, y.heap.size = b := ⟨_, rfl⟩
  have S1 := Lib.hid ((Sep.start y).allocAt hb2 (.cells zero26 48))
  go_enter Tryd.func57, Tryd.ntmps57
  go_upto_region 1 with fail
  refine at_world (fun v => Sep y.heap.size y v [.box b2 (.cells zero26 48)]) S1.out fun y1 hy1 => ?_
  have S2 := Lib.hid hy1
  clear S1 hy1 hb2
  go_wp2_with fail
  refine (HCL.out y1 S2.out.bel).mono ?_
  rintro _ w1 ⟨rfl, hb⟩
  have S3 := Lib.hid (S2.out.up hb)
  clear S2 hb HCL
  obtain ⟨b3, hb3⟩ : ∃ b, w1.heap.size = b := ⟨_, rfl⟩
  have S4 := Lib.hid (S3.out.allocAt hb3 (.cells (cA fun _ => 0) 45))
  rw [cA_no] at S4
  have HB3 := Lib.hid S4.out.at.2
  go_upto_region 2 with (refine wpList_store_row rfl 45 (.tmp 3) (.tmp 14) rfl b3 (cA cl) rfl rfl 45 _ HB3.out (by rw [info45, cA_size]) (by rw [cA_size]; simp) (cA_one _) ?_)
  refine at_world (fun v => Sep y.heap.size y v [.box b3 (.cells (cA cl) 45), .box b2 (.cells zero26 48)]) (S4.out.putRow (cA cl)) fun y2 hy2 => ?_
  have S5 := Lib.hid hy2
  clear S3 S4 HB3 hb3 hy2
  obtain ⟨b5, hb5⟩ : ∃ b, y2.heap.size = b := ⟨_, rfl⟩
  have HB3 := Lib.hid S5.out.at.2
  have S6 := Lib.hid (S5.out.allocAt hb5 (.cells zero26 48))
  have HB5 := Lib.hid S6.out.at.2
  go_upto_region 3 with (first | (refine wpList_load_C rfl (.tmp 3) rfl b3 cl rfl HB3.out ?_) | (refine wpList_build48 rfl _ rfl cl rfl ?_) | (refine wpList_store_row rfl 48 (.tmp 5) (.tmp 17) rfl b5 (dA cl) rfl rfl 48 _ HB5.out (by rw [info26, dA_size]) (by rw [dA_size, zero26_size]) (by rw [Array.all_eq_true_iff_forall_mem]; exact dA_one _) ?_))
  
  have S7 := Lib.hid (((S6.out.putRow (dA cl)).nilrow 39 1).swap)
  clear S5 S6 HB3 HB5 hb5
  refine at_world (fun v => Sep y.heap.size y v (.box b5 (.cells (dA cl) 48) :: .row (.slice none 0 0) 39 1 0 [] :: .row (.slice none 0 0) 3 1 0 [] :: .box b3 (.cells (cA cl) 45) :: [.box b2 (.cells zero26 48)])) ((((S7.out.nilrow 3 1).swap).perm (by exact List.Perm.cons _ (List.Perm.swap _ _ _)))) fun y3 hy3 => ?_
  have S8 := Lib.hid hy3
  have HDS := Lib.hid (DsH.start cl)
  clear S7 hy3
  obtain ⟨pr, cr, hrsl, hhr⟩ := HH.out.nv
  subst hrsl
  have HHR := Lib.hid hhr
  clear hhr
  have c325 := (HU.out y3 S8.out.bel).c325
  go_upto_region 4 with fail
  go_loopw [23] (fun i wr => ∃ (j : Nat) (ds : Array Value) (vn vr : Value) (zs : List (List Int × Nat)) (rls : List Int), i = .int .i64 (j : Nat) ∧ j ≤ rows.length ∧ zs.length = j ∧ Hid (DsH cl ds vn vr) ∧ Hid (zs.map (fun z => z.1) = (rows.take j).map fun r => nxF cl so r m 256) ∧ Hid (rls = (sets.take j).map fun l => lstR ss ((List.range 4096).filter (mb l))) ∧ Hid (Sep y.heap.size y wr (.box b5 (.cells ds 48) :: .row vn 39 1 zs.length (zs.map zV) :: .row vr 3 1 rls.length (zi rls) :: .box b3 (.cells (cA cl) 45) :: .box b2 (.cells zero26 48) :: zs.map zI))) (fun i _ => rows.length - (intOf i).toNat)
  case atStart => exact ⟨0, dA cl, _, _, [], [], rfl, by omega, rfl, HDS, Lib.hid rfl, Lib.hid rfl, S8⟩
  case round =>
  clear S8 HDS c325
  obtain ⟨j, ds, vn, vr, zs, rls, rfl, hjr, hzl, HDS, HZ, HRL, HS⟩ := hrel
  have HZL := Lib.hid hzl
  have hzle : zs.length ≤ 4096 := by have := HH.out.le; omega
  clear hzl
  obtain ⟨Z, rfl⟩ : ∃ W : World, W = wr := ⟨_, rfl⟩
  by_cases hlt : j < rows.length
  · have hltI : (j : Int) < (rows.length : Int) := by omega
    have hjI : ¬ (j : Int) < 0 := by omega
    obtain ⟨b, ob, rfl, hDb, hcx⟩ := HHR.out (by intro e; rw [e] at hlt; simp at hlt)
    obtain ⟨q, f, hiv, hce⟩ := hcx j hlt
    have cx : Z.cell? ⟨b, ob + j, none⟩ = some (.slice q rows[j].length f) := (cell_same (HS.out.bel.block b (HH.out.lt b hDb)) _).trans hce
    have HRW := Lib.hid (HH.out.rws rows[j] (List.getElem_mem hlt))
    have HTK : Hid (rows.take (j + 1) = rows.take j ++ [rows[j]]) := Lib.hid (by rw [List.take_add_one, List.getElem?_eq_getElem hlt]; rfl)
    have HIV := Lib.hid hiv
    obtain ⟨row, hrow⟩ : ∃ r, rows[j] = r := ⟨_, rfl⟩
    rw [hrow] at cx HRW HTK HIV
    clear hcx hce hiv hrow
    have HLT := Lib.hid (show j + 1 ≤ rows.length from hlt)
    have hj4 : j + 1 ≤ 4097 := by have := HH.out.le; omega
    have hmk := make_i m (by omega) Z
    go_upto_region 6 with fail
    obtain ⟨rb, hrb⟩ : ∃ b, Z.heap.size = b := ⟨_, rfl⟩
    have SA := Lib.hid (HS.out.allocAt hrb (.cells (zA (List.replicate m 0)) 3))
    rw [hrb] at hmk
    go_upto_region 7 with fail
    refine at_world (fun v => Sep y.heap.size y v (.box rb (.cells (zA (List.replicate m 0)) 3) :: .box b5 (.cells ds 48) :: .row vn 39 1 zs.length (zs.map zV) :: .row vr 3 1 rls.length (zi rls) :: .box b3 (.cells (cA cl) 45) :: .box b2 (.cells zero26 48) :: zs.map zI)) SA.out fun y4 hy4 => ?_
    have SB : Hid (Sep y.heap.size y y4 (.box rb (.cells (zA (nxF cl so row m 0)) 3) :: .box b5 (.cells ds 48) :: .row vn 39 1 zs.length (zs.map zV) :: .row vr 3 1 rls.length (zi rls) :: .box b3 (.cells (cA cl) 45) :: .box b2 (.cells zero26 48) :: zs.map zI)) := Lib.hid hy4
    have HB3 := Lib.hid (SB.out.li (.box b3 (.cells (cA cl) 45)) (by simp)).2
    clear hy4 SA HS hmk hrb cx
    go_upto_region 8 with (refine wpList_load_C rfl (.tmp 3) rfl b3 cl rfl HB3.out ?_)
    clear HB3
    go_loopw [31] (fun i wr => ∃ k : Nat, i = .int .i64 (k : Nat) ∧ k ≤ 256 ∧ Hid (Sep y.heap.size y wr (.box rb (.cells (zA (nxF cl so row m k)) 3) :: .box b5 (.cells ds 48) :: .row vn 39 1 zs.length (zs.map zV) :: .row vr 3 1 rls.length (zi rls) :: .box b3 (.cells (cA cl) 45) :: .box b2 (.cells zero26 48) :: zs.map zI))) (fun i _ => 256 - (intOf i).toNat)
    case atStart => exact ⟨0, rfl, by omega, SB⟩
    case round =>
      clear SB
      obtain ⟨k, rfl, hk, SB⟩ := hrel
      obtain ⟨Z2, rfl⟩ : ∃ W : World, W = wr := ⟨_, rfl⟩
      by_cases hlt2 : k < 256
      · have hltI2 : (k : Int) < 256 := by omega
        have hkI2 : ¬ (k : Int) < 0 := by omega
        obtain ⟨csk, hsk⟩ := (HU.out Z2 SB.out.bel).so_ k hlt2
        have hck := HCT.out.1 k hlt2
        have hrl := HRW.out.1
        have hsr : so k < row.length := by omega
        obtain ⟨p', c', he, hh⟩ := HIV.out
        cases he
        obtain ⟨br, o2, rfl, hbr, hcf⟩ := hh (by intro e; rw [e] at hsr; simp at hsr)
        have cv : Z2.cell? ⟨br, o2 + so k, none⟩ = some (.int .i64 row[so k]) := (cell_same (SB.out.bel.block br (HH.out.lt br hbr)) _).trans (hcf _ hsr)
        have hix := fun z => run_index_c cl hlt2 z
        have hnl := nxF_len cl so row m k
        have hce : Z2.cell? ⟨rb, cl k, none⟩ = some (.int .i64 ((nxF cl so row m k).getD (cl k) 0)) := (SB.out.boxAt _).trans (zA_get _ _ (by omega))
        have hfz : Z2.frozen? ⟨rb, cl k, none⟩ = false := SB.out.fz _
        have hS2 := SB.out.setc (cl k) (.int .i64 row[so k])
        have hgd : row[so k] = row.getD (so k) 0 := by simp [List.getD, hsr]
        rw [zA_set, hgd, ← nxF_succ] at hS2
        rw [← hgd] at hS2
        have SC := Lib.hid hS2
        have hsl : ((so k : Nat) : Int) < (row.length : Int) := by omega
        have hs0 : ¬ ((so k : Nat) : Int) < 0 := by omega
        have hcI : ((cl k : Nat) : Int) < (m : Int) := by omega
        have hc0 : ¬ ((cl k : Nat) : Int) < 0 := by omega
        generalize row[so k] = v at *
        generalize hsok : so k = sk at *
        generalize hclk : cl k = ck at *
        clear hS2 hcf hh hgd hnl hsok hclk SB
        go_wp2_with fail
        go_roundw
        case rel => exact ⟨k + 1, by go_num, by omega, SC⟩
        case measure => simp [intOf]; omega
      · obtain rfl : k = 256 := by omega
        have hltI2 : ¬ ((256 : Nat) : Int) < 256 := by decide
        obtain ⟨nx, hnx⟩ : ∃ l, nxF cl so row m 256 = l := ⟨_, rfl⟩
        have hnl : nx.length = m := by rw [← hnx]; exact nxF_len cl so row m 256
        rw [hnx] at SB
        have HNX := Lib.hid hnx
        have HZV : Hid (zV (nx, rb) = .slice (some ⟨rb, 0, none⟩) m m) := Lib.hid (by unfold zV; simp only [hnl])
        clear hnl
        obtain ⟨pn, cn, rfl⟩ := rowF_ (SB.out.li (.row vn 39 1 zs.length (zs.map zV)) (by simp))
        have k257 : Z2.cell? ⟨b5, 257, none⟩ = some (.slice pn zs.length cn) := by rw [(Sep.tl SB.out).boxAt 257]; exact HDS.out.nx
        have HA := Lib.hid (SB.out.up ((Below.refl _ _).alloc (Nat.le_refl _) (.cells #[.slice (some ⟨rb, 0, none⟩) m m] 39)))
        have HYA := Lib.hid (show (Z2.alloc (.cells #[.slice (some ⟨rb, 0, none⟩) m m] 39)).heap.size = Z2.heap.size + 1 by simp)
        clear hnx SB HIV
        go_upto_region 12 with fail
        go_wp2_with (at_builtin; refine wpList_append_own_at _ rfl (.tmp 49) (.tmp 51) 46 rfl y.heap.size 39 i0 (.slice none 0 0) 1 24 Tryd.underlying46 hi hz0 hz1 hz2 rfl (by decide) (.slice pn zs.length cn) zs.length (zs.map zV) rfl ?c0 ⟨Z2.heap.size, 0, none⟩ 1 1 [.slice (some ⟨rb, 0, none⟩) m m] rfl rfl ?c1 ?c2 ?c3 ?c4 ?c5 ?_)
        case c0 => exact HA.out.li (.row (.slice pn zs.length cn) 39 1 zs.length (zs.map zV)) (by simp)
        case c2 => simp [Value.oneCell']
        case c3 => unfold maxLen; omega
        case c4 => omega
        case c5 => have := HYA.out; have := HA.out.sz; omega
        intro v' w7 hown7 hgrow7 _ hat7
        obtain ⟨p7, c7, rfl⟩ := rowF_ hown7
        obtain ⟨zs2, hzs2⟩ : ∃ z, zs ++ [(nx, rb)] = z := ⟨_, rfl⟩
        have hzl2 : zs2.length = zs.length + 1 := by rw [← hzs2]; simp
        have hown8 : w7.ownsRow y.heap.size 39 1 (Value.slice p7 (zs.length + 1) c7) zs2.length (zs2.map zV) := by
          rw [hzl2, ← hzs2, List.map_append]
          show w7.ownsRow y.heap.size 39 1 (Value.slice p7 (zs.length + 1) c7) (zs.length + 1) (zs.map zV ++ [zV (nx, rb)])
          rw [HZV.out]; exact hown7
        have hs7 := Sep.repAt (l₁ := [_, _]) (x := .row (.slice pn zs.length cn) 39 1 zs.length (zs.map zV)) (x' := .row (Value.slice p7 (zs.length + 1) c7) 39 1 zs2.length (zs2.map zV)) HA.out hgrow7 hown8 (fun b hb => hat7.elim (fun e => .inl (e.symm.trans hb)) fun e => .inr (by have h2 : (Value.slice p7 (zs.length + 1) c7).ownBlock = some b := hb; rw [e] at h2; cases h2; rw [HYA.out]; exact Nat.le_refl _))
        simp only [List.cons_append, List.nil_append] at hs7
        have hs8 := hs7.perm (List.perm_append_singleton _ _).symm
        have hs9 := hs8.setc 257 (.slice p7 (zs.length + 1) c7)
        have hfz : w7.frozen? ⟨b5, 257, none⟩ = false := hs8.fz 257
        have hce : w7.cell? ⟨b5, 257, none⟩ = some (.slice pn zs.length cn) := (hs8.boxAt 257).trans HDS.out.nx
        have HDS2 := Lib.hid (HDS.out.n (x := .slice p7 (zs.length + 1) c7) rfl)
        have HS9 := Lib.hid hs9
        clear hs7 hs8 hs9 hown7 hown8 hgrow7 hat7 HA HYA k257 HDS
        go_upto_region 13 with fail
        obtain ⟨ds2, hds2⟩ : ∃ d, ds.setIfInBounds 257 (.slice p7 (zs.length + 1) c7) = d := ⟨_, rfl⟩
        rw [hds2] at HS9 HDS2
        refine at_world (fun v => Sep y.heap.size y v (.box b5 (.cells ds2 48) :: .row (.slice p7 (zs.length + 1) c7) 39 1 zs2.length (zs2.map zV) :: .row vr 3 1 rls.length (zi rls) :: .box b3 (.cells (cA cl) 45) :: .box b2 (.cells zero26 48) :: zs2.map zI)) (by
          rw [show zs2.map zI = zs.map zI ++ [.box rb (.cells (zA nx) 3)] by rw [← hzs2, List.map_append]; rfl]
          exact HS9.out) fun y8 hy8 => ?_
        have SF := Lib.hid hy8.drew
        clear hy8 HS9 hds2 hce hfz
        obtain ⟨pq, cq, rfl⟩ := rowF_ (SF.out.li (.row vr 3 1 rls.length (zi rls)) (by simp))
        have hjs : j < sets.length := by rw [← HH.out.ln]; exact hlt
        have HRU := Lib.hid (fun (z : World) (hb : Below y.heap.size y z) => rule_any (w := z) (HU.out z hb).c0 (HU.out z hb).sv (HU.out z hb).lt (HU.out z hb).c323 hjs (by rw [← HH.out.ln]; exact HH.out.le) ((HU.out z hb).sw j hjs) (fun x _ hx => HH.out.inb _ (List.getElem_mem hjs) x (by unfold mb at hx; simpa using hx)) (HU.out z hb).tb)
        have HTS : Hid (sets.take (j + 1) = sets.take j ++ [sets[j]]) := Lib.hid (by rw [List.take_add_one, List.getElem?_eq_getElem hjs]; rfl)
        have hrll : rls.length ≤ 4096 := by have h := HRL.out; have := HH.out.le; have := HH.out.ln; rw [h, List.length_map, List.length_take]; omega
        generalize sets[j] = sj at HRU HTS
        obtain ⟨rv, hrv⟩ : ∃ r, lstR ss ((List.range 4096).filter (mb sj)) = r := ⟨_, rfl⟩
        rw [hrv] at HRU
        have HRV := Lib.hid hrv
        clear hrv hjs
        refine wp_region_held_drew (S := fun _ => True) (by kernel_rfl) trivial (fun hHeld => ?_)
        refine wpAnyH_take (i := 0) (v := (.pointer (some ⟨b5, 258, none⟩))) rfl (by kernel_rfl) (by kernel_rfl) (by kernel_rfl) (fun _ _ _ h => h) (Or.inl ⟨by rfl, by (intro w hSw; (try dsimp only at hSw); go_simp)⟩) hHeld ?_
        (try simp only [Act.put, List.getElem_toArray, List.getElem_cons_zero, List.getElem_cons_succ, List.setIfInBounds_toArray, List.set_cons_zero, List.set_cons_succ])
        refine wpAnyH_take (i := 2) (v := (.pointer (some ⟨bb, 0, none⟩))) rfl (by kernel_rfl) (by kernel_rfl) (by kernel_rfl) (fun _ _ _ h => h) (Or.inl ⟨by rfl, by (intro w hSw; (try dsimp only at hSw); go_simp)⟩) hHeld ?_
        (try simp only [Act.put, List.getElem_toArray, List.getElem_cons_zero, List.getElem_cons_succ, List.setIfInBounds_toArray, List.set_cons_zero, List.set_cons_succ])
        refine wpAnyH_take (i := 3) (v := (.int .i64 (j : Nat))) rfl (by kernel_rfl) (by kernel_rfl) (by kernel_rfl) (fun _ _ _ h => h) (Or.inl ⟨by rfl, by (intro w hSw; (try dsimp only at hSw); go_simp)⟩) hHeld ?_
        (try simp only [Act.put, List.getElem_toArray, List.getElem_cons_zero, List.getElem_cons_succ, List.setIfInBounds_toArray, List.set_cons_zero, List.set_cons_succ])
        have k258 := (SF.out.boxAt 258).trans HDS2.out.rl
        refine wpAnyH_ready (rs := [1, 4]) (by kernel_rfl) (by simp) ?_
        refine AllReadyH.cons rfl (fun K9 hK => ?_) (AllReadyH.cons rfl (fun K9 hK => ?_) (AllReadyH.nil))
        · rw [if_pos (by rfl)]
          refine wp_load_slice 39 (.tmp 54) rfl ⟨b5, 258, none⟩ rfl Tryd.underlying39 (.slice pq rls.length cq) k258 ?_
          refine hK.out _ _ (trivial) (fun hHeld2 => ?_)
          clear hHeld hK
          have hHeld := hHeld2
          clear hHeld2
          (try simp only [Act.put, List.getElem_toArray, List.getElem_cons_zero, List.getElem_cons_succ, List.setIfInBounds_toArray, List.set_cons_zero, List.set_cons_succ])
          refine wpAnyH_ready (rs := [4]) (by kernel_rfl) (by simp) ?_
          refine AllReadyH.cons rfl (fun K9 hK => ?_) (AllReadyH.nil)
          rw [if_pos (by rfl)]
          go_wp2_with fail
          refine (HRU.out _ SF.out.bel).mono ?_
          rintro _ w9 ⟨rfl, hb⟩
          have SG := Lib.hid (SF.out.up hb)
          clear hb SF
          refine hK.out _ _ (trivial) (fun hHeld2 => ?_)
          clear hHeld hK
          have hHeld := hHeld2
          clear hHeld2
          (try simp only [Act.put, List.getElem_toArray, List.getElem_cons_zero, List.getElem_cons_succ, List.setIfInBounds_toArray, List.set_cons_zero, List.set_cons_succ])
          have SH := Lib.hid (SG.out.up ((Below.refl _ _).alloc (Nat.le_refl _) (.cells #[.int .i64 rv] 3)))
          refine wpAnyH_ready (rs := [5]) (by kernel_rfl) (by simp) ?_
          refine AllReadyH.cons rfl (fun K9 hK => ?_) (AllReadyH.nil)
          rw [if_pos (by rfl)]
          go_wp2_with fail
          refine hK.out _ _ (trivial) (fun hHeld2 => ?_)
          clear hHeld hK
          have hHeld := hHeld2
          clear hHeld2
          (try simp only [Act.put, List.getElem_toArray, List.getElem_cons_zero, List.getElem_cons_succ, List.setIfInBounds_toArray, List.set_cons_zero, List.set_cons_succ])
          refine wpAnyH_ready (rs := [6]) (by kernel_rfl) (by simp) ?_
          refine AllReadyH.cons rfl (fun K9 hK => ?_) (AllReadyH.nil)
          rw [if_pos (by rfl)]
          refine wp_append_own (.tmp 55) (.tmp 59) 39 rfl y.heap.size 3 j0 (.int .i64 0) 1 8 Tryd.underlying39 hj hjz0 hjz1 hjz2 rfl (by decide) (.slice pq rls.length cq) rls.length (zi rls) rfl (SH.out.li (.row (.slice pq rls.length cq) 3 1 rls.length (zi rls)) (by simp)) ⟨w9.heap.size, 0, none⟩ 1 1 [.int .i64 rv] rfl rfl ?e2 ?e3 ?e4 ?e5 ?e6 ?_
          case e2 => intro j v hv; cases j with | zero => rw [← hv]; exact cell_of_row _ _ _ _ 3 (0, 0) (heap_alloc_last w9 _) | succ j => cases hv
          case e3 => simp [Value.oneCell']
          case e4 => unfold maxLen; omega
          case e5 => omega
          case e6 => exact SH.out.sz
          intro v' wa hown hgrow hat
          obtain ⟨pa, ca, rfl⟩ := rowF_ hown
          obtain ⟨rls2, hrls2⟩ : ∃ z, rls ++ [rv] = z := ⟨_, rfl⟩
          have hrl2 : rls2.length = rls.length + 1 := by rw [← hrls2]; simp
          have hown8 : wa.ownsRow y.heap.size 3 1 (Value.slice pa (rls.length + 1) ca) rls2.length (zi rls2) := by
            rw [hrl2, ← hrls2]; simpa [zi] using hown
          have hs7 := Sep.repAt (l₁ := [_, _]) (x := .row (.slice pq rls.length cq) 3 1 rls.length (zi rls)) (x' := .row (Value.slice pa (rls.length + 1) ca) 3 1 rls2.length (zi rls2)) SH.out hgrow hown8 (fun b hb => hat.elim (fun e => .inl (e.symm.trans hb)) fun e => .inr (by have h2 : (Value.slice pa (rls.length + 1) ca).ownBlock = some b := hb; rw [e] at h2; cases h2; exact Nat.le_refl _))
          simp only [List.cons_append, List.nil_append] at hs7
          have hce := (hs7.boxAt 258).trans HDS2.out.rl
          have hfz : wa.frozen? ⟨b5, 258, none⟩ = false := hs7.fz 258
          have HSX := Lib.hid (hs7.setc 258 (.slice pa (rls.length + 1) ca))
          have HDS3 := Lib.hid (HDS2.out.r (x := .slice pa (rls.length + 1) ca) rfl)
          have HRL2 : Hid (rls2 = (sets.take (j + 1)).map fun l => lstR ss ((List.range 4096).filter (mb l))) := Lib.hid (by rw [← hrls2, HTS.out, List.map_append, ← HRL.out, List.map_singleton, HRV.out])
          clear hs7 hown hown8 hgrow hat hrl2 hrls2 SG SH
          refine hK.out _ _ (trivial) (fun hHeld2 => ?_)
          clear hHeld hK
          have hHeld := hHeld2
          clear hHeld2
          (try simp only [Act.put, List.getElem_toArray, List.getElem_cons_zero, List.getElem_cons_succ, List.setIfInBounds_toArray, List.set_cons_zero, List.set_cons_succ])
          refine wpAnyH_take (i := 7) (v := (.pointer (some ⟨b5, 258, none⟩))) rfl (by kernel_rfl) (by kernel_rfl) (by kernel_rfl) (fun _ _ _ h => h) (Or.inl ⟨by rfl, by (intro w hSw; (try dsimp only at hSw); go_simp)⟩) hHeld ?_
          (try simp only [Act.put, List.getElem_toArray, List.getElem_cons_zero, List.getElem_cons_succ, List.setIfInBounds_toArray, List.set_cons_zero, List.set_cons_succ])
          refine wpAnyH_ready (rs := [8]) (by kernel_rfl) (by simp) ?_
          refine AllReadyH.cons rfl (fun K9 hK => ?_) (AllReadyH.nil)
          rw [if_pos (by rfl)]
          go_wp2_with fail
          refine hK.out _ _ (trivial) (fun hHeld2 => ?_)
          clear hHeld hK
          have hHeld := hHeld2
          clear hHeld2
          (try simp only [Act.put, List.getElem_toArray, List.getElem_cons_zero, List.getElem_cons_succ, List.setIfInBounds_toArray, List.set_cons_zero, List.set_cons_succ])
          refine wpAnyH_done (by kernel_rfl) ?_ _
          clear hce hfz
          have HZ2 : Hid (zs2.map (fun z => z.1) = (rows.take (j + 1)).map fun r => nxF cl so r m 256) := Lib.hid (by rw [← hzs2, HTK.out, List.map_append, List.map_append, HZ.out, List.map_singleton, List.map_singleton, HNX.out])
          have hzj : zs2.length = j + 1 := by rw [hzl2, HZL.out]
          clear hzs2 hzl2
          go_wp2_with fail
          go_roundw
          case rel => exact ⟨j + 1, _, _, _, zs2, rls2, by go_num, by have := HLT.out; omega, hzj, HDS3, HZ2, HRL2, HSX⟩
          case measure => have := HLT.out; first | (simp [intOf]; done) | (simp [intOf]; omega)
        · rw [if_pos (by rfl)]
          go_wp2_with fail
          refine (HRU.out _ SF.out.bel).mono ?_
          rintro _ w9 ⟨rfl, hb⟩
          have SG := Lib.hid (SF.out.up hb)
          clear hb SF
          refine hK.out _ _ (trivial) (fun hHeld2 => ?_)
          clear hHeld hK
          have hHeld := hHeld2
          clear hHeld2
          (try simp only [Act.put, List.getElem_toArray, List.getElem_cons_zero, List.getElem_cons_succ, List.setIfInBounds_toArray, List.set_cons_zero, List.set_cons_succ])
          have k258' := (SG.out.boxAt 258).trans HDS2.out.rl
          have SH := Lib.hid (SG.out.up ((Below.refl _ _).alloc (Nat.le_refl _) (.cells #[.int .i64 rv] 3)))
          refine wpAnyH_ready (rs := [1, 5]) (by kernel_rfl) (by simp) ?_
          refine AllReadyH.cons rfl (fun K9 hK => ?_) (AllReadyH.cons rfl (fun K9 hK => ?_) (AllReadyH.nil))
          · rw [if_pos (by rfl)]
            refine wp_load_slice 39 (.tmp 54) rfl ⟨b5, 258, none⟩ rfl Tryd.underlying39 (.slice pq rls.length cq) k258' ?_
            refine hK.out _ _ (trivial) (fun hHeld2 => ?_)
            clear hHeld hK
            have hHeld := hHeld2
            clear hHeld2
            (try simp only [Act.put, List.getElem_toArray, List.getElem_cons_zero, List.getElem_cons_succ, List.setIfInBounds_toArray, List.set_cons_zero, List.set_cons_succ])
            refine wpAnyH_ready (rs := [5]) (by kernel_rfl) (by simp) ?_
            refine AllReadyH.cons rfl (fun K9 hK => ?_) (AllReadyH.nil)
            rw [if_pos (by rfl)]
            go_wp2_with fail
            refine hK.out _ _ (trivial) (fun hHeld2 => ?_)
            clear hHeld hK
            have hHeld := hHeld2
            clear hHeld2
            (try simp only [Act.put, List.getElem_toArray, List.getElem_cons_zero, List.getElem_cons_succ, List.setIfInBounds_toArray, List.set_cons_zero, List.set_cons_succ])
            refine wpAnyH_ready (rs := [6]) (by kernel_rfl) (by simp) ?_
            refine AllReadyH.cons rfl (fun K9 hK => ?_) (AllReadyH.nil)
            rw [if_pos (by rfl)]
            refine wp_append_own (.tmp 55) (.tmp 59) 39 rfl y.heap.size 3 j0 (.int .i64 0) 1 8 Tryd.underlying39 hj hjz0 hjz1 hjz2 rfl (by decide) (.slice pq rls.length cq) rls.length (zi rls) rfl (SH.out.li (.row (.slice pq rls.length cq) 3 1 rls.length (zi rls)) (by simp)) ⟨w9.heap.size, 0, none⟩ 1 1 [.int .i64 rv] rfl rfl ?e2 ?e3 ?e4 ?e5 ?e6 ?_
            case e2 => intro j v hv; cases j with | zero => rw [← hv]; exact cell_of_row _ _ _ _ 3 (0, 0) (heap_alloc_last w9 _) | succ j => cases hv
            case e3 => simp [Value.oneCell']
            case e4 => unfold maxLen; omega
            case e5 => omega
            case e6 => exact SH.out.sz
            intro v' wa hown hgrow hat
            obtain ⟨pa, ca, rfl⟩ := rowF_ hown
            obtain ⟨rls2, hrls2⟩ : ∃ z, rls ++ [rv] = z := ⟨_, rfl⟩
            have hrl2 : rls2.length = rls.length + 1 := by rw [← hrls2]; simp
            have hown8 : wa.ownsRow y.heap.size 3 1 (Value.slice pa (rls.length + 1) ca) rls2.length (zi rls2) := by
              rw [hrl2, ← hrls2]; simpa [zi] using hown
            have hs7 := Sep.repAt (l₁ := [_, _]) (x := .row (.slice pq rls.length cq) 3 1 rls.length (zi rls)) (x' := .row (Value.slice pa (rls.length + 1) ca) 3 1 rls2.length (zi rls2)) SH.out hgrow hown8 (fun b hb => hat.elim (fun e => .inl (e.symm.trans hb)) fun e => .inr (by have h2 : (Value.slice pa (rls.length + 1) ca).ownBlock = some b := hb; rw [e] at h2; cases h2; exact Nat.le_refl _))
            simp only [List.cons_append, List.nil_append] at hs7
            have hce := (hs7.boxAt 258).trans HDS2.out.rl
            have hfz : wa.frozen? ⟨b5, 258, none⟩ = false := hs7.fz 258
            have HSX := Lib.hid (hs7.setc 258 (.slice pa (rls.length + 1) ca))
            have HDS3 := Lib.hid (HDS2.out.r (x := .slice pa (rls.length + 1) ca) rfl)
            have HRL2 : Hid (rls2 = (sets.take (j + 1)).map fun l => lstR ss ((List.range 4096).filter (mb l))) := Lib.hid (by rw [← hrls2, HTS.out, List.map_append, ← HRL.out, List.map_singleton, HRV.out])
            clear hs7 hown hown8 hgrow hat hrl2 hrls2 SG SH
            refine hK.out _ _ (trivial) (fun hHeld2 => ?_)
            clear hHeld hK
            have hHeld := hHeld2
            clear hHeld2
            (try simp only [Act.put, List.getElem_toArray, List.getElem_cons_zero, List.getElem_cons_succ, List.setIfInBounds_toArray, List.set_cons_zero, List.set_cons_succ])
            refine wpAnyH_take (i := 7) (v := (.pointer (some ⟨b5, 258, none⟩))) rfl (by kernel_rfl) (by kernel_rfl) (by kernel_rfl) (fun _ _ _ h => h) (Or.inl ⟨by rfl, by (intro w hSw; (try dsimp only at hSw); go_simp)⟩) hHeld ?_
            (try simp only [Act.put, List.getElem_toArray, List.getElem_cons_zero, List.getElem_cons_succ, List.setIfInBounds_toArray, List.set_cons_zero, List.set_cons_succ])
            refine wpAnyH_ready (rs := [8]) (by kernel_rfl) (by simp) ?_
            refine AllReadyH.cons rfl (fun K9 hK => ?_) (AllReadyH.nil)
            rw [if_pos (by rfl)]
            go_wp2_with fail
            refine hK.out _ _ (trivial) (fun hHeld2 => ?_)
            clear hHeld hK
            have hHeld := hHeld2
            clear hHeld2
            (try simp only [Act.put, List.getElem_toArray, List.getElem_cons_zero, List.getElem_cons_succ, List.setIfInBounds_toArray, List.set_cons_zero, List.set_cons_succ])
            refine wpAnyH_done (by kernel_rfl) ?_ _
            clear hce hfz
            have HZ2 : Hid (zs2.map (fun z => z.1) = (rows.take (j + 1)).map fun r => nxF cl so r m 256) := Lib.hid (by rw [← hzs2, HTK.out, List.map_append, List.map_append, HZ.out, List.map_singleton, List.map_singleton, HNX.out])
            have hzj : zs2.length = j + 1 := by rw [hzl2, HZL.out]
            clear hzs2 hzl2
            go_wp2_with fail
            go_roundw
            case rel => exact ⟨j + 1, _, _, _, zs2, rls2, by go_num, by have := HLT.out; omega, hzj, HDS3, HZ2, HRL2, HSX⟩
            case measure => have := HLT.out; first | (simp [intOf]; done) | (simp [intOf]; omega)
          · rw [if_pos (by rfl)]
            have k258'' := (SH.out.boxAt 258).trans HDS2.out.rl
            go_wp2_with fail
            refine hK.out _ _ (trivial) (fun hHeld2 => ?_)
            clear hHeld hK
            have hHeld := hHeld2
            clear hHeld2
            (try simp only [Act.put, List.getElem_toArray, List.getElem_cons_zero, List.getElem_cons_succ, List.setIfInBounds_toArray, List.set_cons_zero, List.set_cons_succ])
            refine wpAnyH_ready (rs := [1]) (by kernel_rfl) (by simp) ?_
            refine AllReadyH.cons rfl (fun K9 hK => ?_) (AllReadyH.nil)
            rw [if_pos (by rfl)]
            refine wp_load_slice 39 (.tmp 54) rfl ⟨b5, 258, none⟩ rfl Tryd.underlying39 (.slice pq rls.length cq) k258'' ?_
            refine hK.out _ _ (trivial) (fun hHeld2 => ?_)
            clear hHeld hK
            have hHeld := hHeld2
            clear hHeld2
            (try simp only [Act.put, List.getElem_toArray, List.getElem_cons_zero, List.getElem_cons_succ, List.setIfInBounds_toArray, List.set_cons_zero, List.set_cons_succ])
            refine wpAnyH_ready (rs := [6]) (by kernel_rfl) (by simp) ?_
            refine AllReadyH.cons rfl (fun K9 hK => ?_) (AllReadyH.nil)
            rw [if_pos (by rfl)]
            refine wp_append_own (.tmp 55) (.tmp 59) 39 rfl y.heap.size 3 j0 (.int .i64 0) 1 8 Tryd.underlying39 hj hjz0 hjz1 hjz2 rfl (by decide) (.slice pq rls.length cq) rls.length (zi rls) rfl (SH.out.li (.row (.slice pq rls.length cq) 3 1 rls.length (zi rls)) (by simp)) ⟨w9.heap.size, 0, none⟩ 1 1 [.int .i64 rv] rfl rfl ?e2 ?e3 ?e4 ?e5 ?e6 ?_
            case e2 => intro j v hv; cases j with | zero => rw [← hv]; exact cell_of_row _ _ _ _ 3 (0, 0) (heap_alloc_last w9 _) | succ j => cases hv
            case e3 => simp [Value.oneCell']
            case e4 => unfold maxLen; omega
            case e5 => omega
            case e6 => exact SH.out.sz
            intro v' wa hown hgrow hat
            obtain ⟨pa, ca, rfl⟩ := rowF_ hown
            obtain ⟨rls2, hrls2⟩ : ∃ z, rls ++ [rv] = z := ⟨_, rfl⟩
            have hrl2 : rls2.length = rls.length + 1 := by rw [← hrls2]; simp
            have hown8 : wa.ownsRow y.heap.size 3 1 (Value.slice pa (rls.length + 1) ca) rls2.length (zi rls2) := by
              rw [hrl2, ← hrls2]; simpa [zi] using hown
            have hs7 := Sep.repAt (l₁ := [_, _]) (x := .row (.slice pq rls.length cq) 3 1 rls.length (zi rls)) (x' := .row (Value.slice pa (rls.length + 1) ca) 3 1 rls2.length (zi rls2)) SH.out hgrow hown8 (fun b hb => hat.elim (fun e => .inl (e.symm.trans hb)) fun e => .inr (by have h2 : (Value.slice pa (rls.length + 1) ca).ownBlock = some b := hb; rw [e] at h2; cases h2; exact Nat.le_refl _))
            simp only [List.cons_append, List.nil_append] at hs7
            have hce := (hs7.boxAt 258).trans HDS2.out.rl
            have hfz : wa.frozen? ⟨b5, 258, none⟩ = false := hs7.fz 258
            have HSX := Lib.hid (hs7.setc 258 (.slice pa (rls.length + 1) ca))
            have HDS3 := Lib.hid (HDS2.out.r (x := .slice pa (rls.length + 1) ca) rfl)
            have HRL2 : Hid (rls2 = (sets.take (j + 1)).map fun l => lstR ss ((List.range 4096).filter (mb l))) := Lib.hid (by rw [← hrls2, HTS.out, List.map_append, ← HRL.out, List.map_singleton, HRV.out])
            clear hs7 hown hown8 hgrow hat hrl2 hrls2 SG SH
            refine hK.out _ _ (trivial) (fun hHeld2 => ?_)
            clear hHeld hK
            have hHeld := hHeld2
            clear hHeld2
            (try simp only [Act.put, List.getElem_toArray, List.getElem_cons_zero, List.getElem_cons_succ, List.setIfInBounds_toArray, List.set_cons_zero, List.set_cons_succ])
            refine wpAnyH_take (i := 7) (v := (.pointer (some ⟨b5, 258, none⟩))) rfl (by kernel_rfl) (by kernel_rfl) (by kernel_rfl) (fun _ _ _ h => h) (Or.inl ⟨by rfl, by (intro w hSw; (try dsimp only at hSw); go_simp)⟩) hHeld ?_
            (try simp only [Act.put, List.getElem_toArray, List.getElem_cons_zero, List.getElem_cons_succ, List.setIfInBounds_toArray, List.set_cons_zero, List.set_cons_succ])
            refine wpAnyH_ready (rs := [8]) (by kernel_rfl) (by simp) ?_
            refine AllReadyH.cons rfl (fun K9 hK => ?_) (AllReadyH.nil)
            rw [if_pos (by rfl)]
            go_wp2_with fail
            refine hK.out _ _ (trivial) (fun hHeld2 => ?_)
            clear hHeld hK
            have hHeld := hHeld2
            clear hHeld2
            (try simp only [Act.put, List.getElem_toArray, List.getElem_cons_zero, List.getElem_cons_succ, List.setIfInBounds_toArray, List.set_cons_zero, List.set_cons_succ])
            refine wpAnyH_done (by kernel_rfl) ?_ _
            clear hce hfz
            have HZ2 : Hid (zs2.map (fun z => z.1) = (rows.take (j + 1)).map fun r => nxF cl so r m 256) := Lib.hid (by rw [← hzs2, HTK.out, List.map_append, List.map_append, HZ.out, List.map_singleton, List.map_singleton, HNX.out])
            have hzj : zs2.length = j + 1 := by rw [hzl2, HZL.out]
            clear hzs2 hzl2
            go_wp2_with fail
            go_roundw
            case rel => exact ⟨j + 1, _, _, _, zs2, rls2, by go_num, by have := HLT.out; omega, hzj, HDS3, HZ2, HRL2, HSX⟩
            case measure => have := HLT.out; first | (simp [intOf]; done) | (simp [intOf]; omega)
  · obtain rfl : j = rows.length := by omega
    have hltI : ¬ (rows.length : Int) < (rows.length : Int) := by omega
    have HRS : Hid (rls.length = sets.length) := Lib.hid (by have h := HRL.out; rw [h, List.length_map, List.length_take, ← HH.out.ln]; omega)
    have hrr : rls = sets.map fun l => lstR ss ((List.range 4096).filter (mb l)) := by have h := HRL.out; rw [HH.out.ln, List.take_length] at h; exact h
    have hzz : zs.map (fun z => z.1) = rows.map fun r => nxF cl so r m 256 := by have h := HZ.out; rw [List.take_length] at h; exact h
    have HRR := Lib.hid hrr
    have HZZ := Lib.hid hzz
    obtain ⟨pn, cn, rfl⟩ := rowF_ (HS.out.li (.row vn 39 1 zs.length (zs.map zV)) (by simp))
    obtain ⟨pq, cq, rfl⟩ := rowF_ (HS.out.li (.row vr 3 1 rls.length (zi rls)) (by simp))
    have HB5 := Lib.hid HS.out.at.2
    have HB2 := Lib.hid (HS.out.li (.box b2 (.cells zero26 48)) (by simp)).2
    have SX := Lib.hid (HS.out.to 4 (by simp))
    simp only [List.getElem_cons_succ, List.getElem_cons_zero, List.eraseIdx] at SX
    clear hrr hzz HS
    go_wp2_with (first | (refine wpList_load_D rfl (.tmp 5) rfl b5 ds rfl HB5.out HDS.out.sz ?_) | (refine wpList_store_row rfl 48 (.tmp 2) (.tmp 63) rfl b2 ds rfl rfl 48 _ HB2.out (by rw [info26, HDS.out.sz]) (by rw [zero26_size, HDS.out.sz]) ?one ?_))
    case one => first | exact (fun i hi => HDS.out.one _ (Array.getElem_mem hi)) | exact Array.all_eq_true_iff_forall_mem.2 HDS.out.one
    refine bodyPost_ret (v := .agg ds) (results_cell_row rfl _ _ b2 48 _ (0, 0) _ rfl (setRow_heap _ b2 _ _ 48 (0, 0) HB2.out) Tryd.underlying48 rfl (by rw [info26, HDS.out.sz])) rfl ?_
    have hsx := ((SX.out.putRow ds).sub (.cons _ (.cons _ (.cons_cons _ (.cons_cons _ (.cons _ (.refl (zs.map zI))))))))
    have h0 := HDS.out
    refine ⟨ds, pn, cn, pq, cq, zs, rfl, ⟨h0.sz, h0.one, h0.st, fun i hi => ⟨h0.cls i hi, by show cl i < 256; have := HCT.out.1 i hi; omega⟩, ?_, ?_⟩, HZZ.out, ?_⟩
    · simp only [List.length_map]; rw [← HZL.out]; exact h0.nx
    · simp only [List.length_map]; rw [← HRS.out]; exact h0.rl
    · rw [List.append_nil, ← HRR.out, ← HRS.out, ← HZL.out]
      exact hsx
end Go.Proofs.YthglciccejholaaDoor
