/- Package regs: the reader's small steps: what comes next. -/
import Derived.Test.YthglciccejholaaDoorProg
import Derived.Test.YthglciccejholaaDoorRG39
import Derived.Test.YthglciccejholaaDoorV9
import Derived.WalkKit
import Derived.WalkLawsBesides
import Derived.WalkSpells
import Derived.Outline
import Derived.Lib.Walk
import Derived.Lib.Hide
import Derived.RegionTactic
import Derived.LoopTactic
import Derived.Below
import Derived.IntWalk
import Derived.Deep.QuietTactic
import Derived.BigQuiet
import Derived.Deep.Cut
import Derived.Deep.CutRange
namespace Go.Proofs.YthglciccejholaaDoor.R5
set_option linter.unusedSimpArgs false
set_option linter.unusedVariables false
set_option maxRecDepth 100000
open Go.RowKit

/-- In lay: the box, the answer. -/
def LQ (b A : Nat) (cs : Array Value) (N : Net) (w0 x : World) : Prop := Nk b N w0 x ∧ x.heap[A]? = some (.cells cs 27 (0, 0)) ∧ x.heap[A + 1]? = some (.cells prtZ 96 (0, 0))
def LW (b A P : Nat) (cs : Array Value) (N : Net) (q : Prt) (w0 x : World) : Prop := LQ b A cs N w0 x ∧ x.heap[P]? = some (.cells (prtA q) 96 (0, 0))
theorem LQ.step {b A : Nat} {cs : Array Value} {N M : Net} {w0 x y : World} (h : LQ b A cs N w0 x) (hbA : b < A) (k : Nk b M x y) : LQ b A cs M w0 y :=
  ⟨h.1.trans k, (k.2.2 A (Array.getElem?_eq_some_iff.1 h.2.1).1 (by omega)).trans h.2.1, (k.2.2 (A + 1) (Array.getElem?_eq_some_iff.1 h.2.2).1 (by omega)).trans h.2.2⟩
theorem LQ.up {b A : Nat} {cs : Array Value} {N : Net} {w0 x y : World} (h : LQ b A cs N w0 x) (hb : Below x.heap.size x y) : LQ b A cs N w0 y :=
  ⟨h.1.up hb, (hb.block _ (Array.getElem?_eq_some_iff.1 h.2.1).1).trans h.2.1, (hb.block _ (Array.getElem?_eq_some_iff.1 h.2.2).1).trans h.2.2⟩
theorem LQ.lt {b A : Nat} {cs : Array Value} {N : Net} {w0 x : World} (h : LQ b A cs N w0 x) : A + 1 < x.heap.size := (Array.getElem?_eq_some_iff.1 h.2.2).1
theorem LQ.c {b A : Nat} {cs : Array Value} {N : Net} {w0 x : World} (h : LQ b A cs N w0 x) (j : Nat) : x.cell? ⟨A, j, none⟩ = cs[j]? := cell_of_row x _ j _ 27 (0, 0) h.2.1
theorem LW.step {b A P : Nat} {cs : Array Value} {N M : Net} {q : Prt} {w0 x y : World} (h : LW b A P cs N q w0 x) (hbA : b < A) (hP : A + 1 < P) (k : Nk b M x y) : LW b A P cs M q w0 y :=
  ⟨h.1.step hbA k, (k.2.2 P (Array.getElem?_eq_some_iff.1 h.2).1 (by omega)).trans h.2⟩
theorem LW.p {b A P : Nat} {cs : Array Value} {N : Net} {q : Prt} {w0 x : World} (h : LW b A P cs N q w0 x) (j : Nat) : x.cell? ⟨P, j, none⟩ = (prtA q)[j]? := cell_of_row x _ j _ 96 (0, 0) h.2
theorem LW.fp {b A P : Nat} {cs : Array Value} {N : Net} {q : Prt} {w0 x : World} (h : LW b A P cs N q w0 x) (j : Nat) : x.frozen? ⟨P, j, none⟩ = false := frozen_of_row x _ j _ 96 h.2
theorem LW.rpf {b A P : Nat} {cs : Array Value} {N : Net} {q : Prt} {w0 x : World} (h : LW b A P cs N q w0 x) : x.rangeAt P 1 (spL q.f) := fun j v hv => by
  have hj : j < 8 := (List.getElem?_eq_some_iff.1 hv).1
  rw [h.p, ← hv]; rcases lt8 hj with rfl | rfl | rfl | rfl | rfl | rfl | rfl | rfl <;> rfl
theorem LW.rpl {b A P : Nat} {cs : Array Value} {N : Net} {q : Prt} {w0 x : World} (h : LW b A P cs N q w0 x) : x.rangeAt P 9 (spL q.l) := fun j v hv => by
  have hj : j < 8 := (List.getElem?_eq_some_iff.1 hv).1
  rw [h.p, ← hv]; rcases lt8 hj with rfl | rfl | rfl | rfl | rfl | rfl | rfl | rfl <;> rfl
theorem LW.setP {b A P : Nat} {cs : Array Value} {N : Net} {q q' : Prt} {w0 x : World} (h : LW b A P cs N q w0 x) (hb : b < w0.heap.size) (hA : w0.heap.size = A) (hP : A + 1 < P) (o : Nat) (vs : List Value) (hv : putA (prtA q) o vs = prtA q') : LW b A P cs N q' w0 (x.setCells P o vs) :=
  ⟨⟨h.1.1.set hb (by omega) vs, (setCells_other (by omega) _ _ _).trans h.1.2.1, (setCells_other (by omega) _ _ _).trans h.1.2.2⟩, by rw [← hv]; exact setCells_heap vs o x _ h.2⟩
theorem PVs.mono {D : Nat → Prop} {w w' : World} {ps : List RT} {p : Option Addr} (hw : ∀ z, D z → w'.heap[z]? = w.heap[z]?) (h : PVs D w ps p) : PVs D w' ps p := fun hne => by
  obtain ⟨b, o, rfl, hD, hx⟩ := h hne
  refine ⟨b, o, rfl, hD, fun i hi => ?_⟩
  obtain ⟨k', u', p', n', c', hv, hc⟩ := hx i hi
  refine ⟨k', u', p', n', c', RV.mono (fun b h => h) (fun z hz _ => hw z hz) hv, fun j y hy => ?_⟩
  rw [← hc j y hy]
  simp only [World.cell?, hw b hD]
set_option maxHeartbeats 8000000 in
theorem lay_0 {D : Nat → Prop} {b : Nat} {N : Net} {u : Nat → Int} {ps : List RT} {v : Value} {w : World} (hnet : w.heap[b]? = some (.cells (netC N) 94 (0, 0))) (hD : ∀ z, D z → z < b) (h : RV D w (.mk 0 u ps) v)  :
    Calls Tryd.prog 49 #[.pointer (some ⟨b, 0, none⟩), v] w fun e w' => e = .returned (.agg (prtA ⟨false, noS, noS⟩)) ∧ Nk b N w w' := by
  obtain ⟨p, c, rfl, hp⟩ := h.parts
  have hz := zero27l
  have hb := (Array.getElem?_eq_some_iff.1 hnet).1
  have S0 : Hid (LQ b w.heap.size #[.int .i64 0, .int .u64 (u 0), .int .u64 (u 1), .int .u64 (u 2), .int .u64 (u 3), .slice p ps.length c] N w ((w.alloc (.cells #[.int .i64 0, .int .u64 (u 0), .int .u64 (u 1), .int .u64 (u 2), .int .u64 (u 3), .slice p ps.length c] 27)).alloc (.cells prtZ 96))) := Lib.hid (by
    refine ⟨(Nk.start hnet).up (((Below.refl _ _).alloc (Nat.le_refl _) _).alloc (by simp) _), ?_, ?_⟩
    · rw [heap_alloc2_old]
    · rw [heap_alloc2_new])
  have HPV : Hid (PVs D ((w.alloc (.cells #[.int .i64 0, .int .u64 (u 0), .int .u64 (u 1), .int .u64 (u 2), .int .u64 (u 3), .slice p ps.length c] 27)).alloc (.cells prtZ 96)) ps p) := Lib.hid (PVs.mono (fun z hz' => S0.out.1.2.1.block z (hD z hz')) hp)
  clear h hp hnet
  go_enter Tryd.func49, Tryd.ntmps49
  go_upto_region 3 with fail
  rw [show (#[.bool false, .int .u64 0, .int .u64 0, .int .u64 0, .int .u64 0, .int .u64 0, .int .u64 0, .int .u64 0, .int .u64 0, .int .u64 0, .int .u64 0, .int .u64 0, .int .u64 0, .int .u64 0, .int .u64 0, .int .u64 0, .int .u64 0] : Array Value) = prtZ from rfl]
  generalize ((w.alloc (.cells #[.int .i64 0, .int .u64 (u 0), .int .u64 (u 1), .int .u64 (u 2), .int .u64 (u 3), .slice p ps.length c] 27)).alloc (.cells prtZ 96)) = ws at *
  refine wp_region_list ?_
  refine wpList_plain rfl fun K hK => ?_
  have hK2 := Lib.hid hK
  clear hK
  go_wp2_with fail
  refine hK2.out _ _ ?_
  clear hK2 K
  rw [show (#[.bool false, .int .u64 0, .int .u64 0, .int .u64 0, .int .u64 0, .int .u64 0, .int .u64 0, .int .u64 0, .int .u64 0, .int .u64 0, .int .u64 0, .int .u64 0, .int .u64 0, .int .u64 0, .int .u64 0, .int .u64 0, .int .u64 0] : Array Value) = prtA ⟨false, noS, noS⟩ from by simp [prtA, wf, W_noS]]
  refine wpList_plain rfl fun K hK => wp_store_prt (.tmp 4) (.tmp 10) rfl (w.heap.size + 1) prtZ ⟨false, noS, noS⟩ rfl rfl (S0.out.2.2) (rfl) (hK _ _ ?_)
  simp only [Act.put]
  refine wpList_nil ?_
  refine at_worldQ (fun y => Nk b N w y ∧ y.heap[w.heap.size + 1]? = some (.cells (prtA ⟨false, noS, noS⟩) 96 (0, 0))) ⟨(S0.out.1).set hb (by omega) _, (setCells_heap _ 0 _ _ S0.out.2.2).trans (by rw [putA_all prtZ ⟨false, noS, noS⟩ rfl])⟩ fun y hy => ?_
  have hv := load_prt hy.2
  have HN := Lib.hid hy.1
  clear hy
  go_wp2_with fail
  refine bodyPost_ret (v := .agg (prtA ⟨false, noS, noS⟩)) (by simp [results, Tryd.results49, asAddr, hv]) rfl ⟨rfl, ?_⟩
  exact HN.out
set_option maxHeartbeats 8000000 in
theorem lay_1 {D : Nat → Prop} {b : Nat} {N : Net} {u : Nat → Int} {ps : List RT} {v : Value} {w : World} (hnet : w.heap[b]? = some (.cells (netC N) 94 (0, 0))) (hD : ∀ z, D z → z < b) (h : RV D w (.mk 1 u ps) v)  :
    Calls Tryd.prog 49 #[.pointer (some ⟨b, 0, none⟩), v] w fun e w' => e = .returned (.agg (prtA ⟨true, noS, noS⟩)) ∧ Nk b N w w' := by
  obtain ⟨p, c, rfl, hp⟩ := h.parts
  have hz := zero27l
  have hb := (Array.getElem?_eq_some_iff.1 hnet).1
  have S0 : Hid (LQ b w.heap.size #[.int .i64 1, .int .u64 (u 0), .int .u64 (u 1), .int .u64 (u 2), .int .u64 (u 3), .slice p ps.length c] N w ((w.alloc (.cells #[.int .i64 1, .int .u64 (u 0), .int .u64 (u 1), .int .u64 (u 2), .int .u64 (u 3), .slice p ps.length c] 27)).alloc (.cells prtZ 96))) := Lib.hid (by
    refine ⟨(Nk.start hnet).up (((Below.refl _ _).alloc (Nat.le_refl _) _).alloc (by simp) _), ?_, ?_⟩
    · rw [heap_alloc2_old]
    · rw [heap_alloc2_new])
  have HPV : Hid (PVs D ((w.alloc (.cells #[.int .i64 1, .int .u64 (u 0), .int .u64 (u 1), .int .u64 (u 2), .int .u64 (u 3), .slice p ps.length c] 27)).alloc (.cells prtZ 96)) ps p) := Lib.hid (PVs.mono (fun z hz' => S0.out.1.2.1.block z (hD z hz')) hp)
  clear h hp hnet
  go_enter Tryd.func49, Tryd.ntmps49
  go_upto_region 5 with fail
  rw [show (#[.bool false, .int .u64 0, .int .u64 0, .int .u64 0, .int .u64 0, .int .u64 0, .int .u64 0, .int .u64 0, .int .u64 0, .int .u64 0, .int .u64 0, .int .u64 0, .int .u64 0, .int .u64 0, .int .u64 0, .int .u64 0, .int .u64 0] : Array Value) = prtZ from rfl]
  generalize ((w.alloc (.cells #[.int .i64 1, .int .u64 (u 0), .int .u64 (u 1), .int .u64 (u 2), .int .u64 (u 3), .slice p ps.length c] 27)).alloc (.cells prtZ 96)) = ws at *
  refine wp_region_list ?_
  refine wpList_plain rfl fun K hK => ?_
  have hK2 := Lib.hid hK
  clear hK
  go_wp2_with fail
  refine hK2.out _ _ ?_
  clear hK2 K
  rw [show (#[.bool true, .int .u64 0, .int .u64 0, .int .u64 0, .int .u64 0, .int .u64 0, .int .u64 0, .int .u64 0, .int .u64 0, .int .u64 0, .int .u64 0, .int .u64 0, .int .u64 0, .int .u64 0, .int .u64 0, .int .u64 0, .int .u64 0] : Array Value) = prtA ⟨true, noS, noS⟩ from by simp [prtA, wf, W_noS]]
  refine wpList_plain rfl fun K hK => wp_store_prt (.tmp 4) (.tmp 13) rfl (w.heap.size + 1) prtZ ⟨true, noS, noS⟩ rfl rfl (S0.out.2.2) (rfl) (hK _ _ ?_)
  simp only [Act.put]
  refine wpList_nil ?_
  refine at_worldQ (fun y => Nk b N w y ∧ y.heap[w.heap.size + 1]? = some (.cells (prtA ⟨true, noS, noS⟩) 96 (0, 0))) ⟨(S0.out.1).set hb (by omega) _, (setCells_heap _ 0 _ _ S0.out.2.2).trans (by rw [putA_all prtZ ⟨true, noS, noS⟩ rfl])⟩ fun y hy => ?_
  have hv := load_prt hy.2
  have HN := Lib.hid hy.1
  clear hy
  go_wp2_with fail
  refine bodyPost_ret (v := .agg (prtA ⟨true, noS, noS⟩)) (by simp [results, Tryd.results49, asAddr, hv]) rfl ⟨rfl, ?_⟩
  exact HN.out
set_option maxHeartbeats 8000000 in
theorem lay_2 {D : Nat → Prop} {b : Nat} {N : Net} {u : Nat → Int} {ps : List RT} {v : Value} {w : World} (hnet : w.heap[b]? = some (.cells (netC N) 94 (0, 0))) (hD : ∀ z, D z → z < b) (h : RV D w (.mk 2 u ps) v) (hu : okU u) (hn : N.n < 512) :
    Calls Tryd.prog 49 #[.pointer (some ⟨b, 0, none⟩), v] w fun e w' => e = .returned (.agg (prtA ⟨false, oneS N.n, oneS N.n⟩)) ∧ Nk b (N.spot (fOf u)) w w' := by
  obtain ⟨p, c, rfl, hp⟩ := h.parts
  have hz := zero27l
  have hb := (Array.getElem?_eq_some_iff.1 hnet).1
  have S0 : Hid (LQ b w.heap.size #[.int .i64 2, .int .u64 (u 0), .int .u64 (u 1), .int .u64 (u 2), .int .u64 (u 3), .slice p ps.length c] N w ((w.alloc (.cells #[.int .i64 2, .int .u64 (u 0), .int .u64 (u 1), .int .u64 (u 2), .int .u64 (u 3), .slice p ps.length c] 27)).alloc (.cells prtZ 96))) := Lib.hid (by
    refine ⟨(Nk.start hnet).up (((Below.refl _ _).alloc (Nat.le_refl _) _).alloc (by simp) _), ?_, ?_⟩
    · rw [heap_alloc2_old]
    · rw [heap_alloc2_new])
  have HPV : Hid (PVs D ((w.alloc (.cells #[.int .i64 2, .int .u64 (u 0), .int .u64 (u 1), .int .u64 (u 2), .int .u64 (u 3), .slice p ps.length c] 27)).alloc (.cells prtZ 96)) ps p) := Lib.hid (PVs.mono (fun z hz' => S0.out.1.2.1.block z (hD z hz')) hp)
  clear h hp hnet
  go_enter Tryd.func49, Tryd.ntmps49
  go_upto_region 7 with fail
  rw [show (#[.bool false, .int .u64 0, .int .u64 0, .int .u64 0, .int .u64 0, .int .u64 0, .int .u64 0, .int .u64 0, .int .u64 0, .int .u64 0, .int .u64 0, .int .u64 0, .int .u64 0, .int .u64 0, .int .u64 0, .int .u64 0, .int .u64 0] : Array Value) = prtZ from rfl]
  generalize ((w.alloc (.cells #[.int .i64 2, .int .u64 (u 0), .int .u64 (u 1), .int .u64 (u 2), .int .u64 (u 3), .slice p ps.length c] 27)).alloc (.cells prtZ 96)) = ws at *
  refine wp_region_list ?_
  have HS : Hid (Calls Tryd.prog 83 #[.pointer (some ⟨b, 0, none⟩), .agg #[.int .u64 (u 0), .int .u64 (u 1), .int .u64 (u 2), .int .u64 (u 3)]] ws fun e w' => e = .returned (.agg (prtA ⟨false, oneS N.n, oneS N.n⟩)) ∧ Nk b (N.spot (fOf u)) ws w') := Lib.hid (by rw [okU_vv hu]; exact spot_any (fOf u) S0.out.1.1 hn)
  have c1 : ws.cell? ⟨w.heap.size, 1, none⟩ = some (.int .u64 (u 0)) := S0.out.c 1
  have c2 : ws.cell? ⟨w.heap.size, 2, none⟩ = some (.int .u64 (u 1)) := S0.out.c 2
  have c3 : ws.cell? ⟨w.heap.size, 3, none⟩ = some (.int .u64 (u 2)) := S0.out.c 3
  have c4 : ws.cell? ⟨w.heap.size, 4, none⟩ = some (.int .u64 (u 3)) := S0.out.c 4
  refine wpList_plain rfl fun K hK => ?_
  have hK2 := Lib.hid hK
  clear hK
  go_wp2_with fail
  refine hK2.out _ _ ?_
  clear hK2 K
  refine wpList_plain rfl fun K hK => ?_
  have hK2 := Lib.hid hK
  clear hK
  go_wp2_with fail
  refine hK2.out _ _ ?_
  clear hK2 K
  refine wpList_plain rfl fun K hK => ?_
  have hK2 := Lib.hid hK
  clear hK
  go_wp2_with fail
  refine hK2.out _ _ ?_
  clear hK2 K
  refine wpList_plain rfl fun K hK => ?_
  have hK2 := Lib.hid hK
  clear hK
  go_wp2_with fail
  refine (HS.out).mono ?_
  rintro _ x1 ⟨rfl, hk⟩
  refine hK2.out _ _ ?_
  clear hK2 K
  have H1 := Lib.hid (S0.out.step hb hk)
  clear hk HS c1 c2 c3 c4 S0
  refine wpList_plain rfl fun K hK => wp_store_prt (.tmp 4) (.tmp 19) rfl (w.heap.size + 1) prtZ ⟨false, oneS N.n, oneS N.n⟩ rfl rfl (H1.out.2.2) (rfl) (hK _ _ ?_)
  simp only [Act.put]
  refine wpList_nil ?_
  refine at_worldQ (fun y => Nk b (N.spot (fOf u)) w y ∧ y.heap[w.heap.size + 1]? = some (.cells (prtA ⟨false, oneS N.n, oneS N.n⟩) 96 (0, 0))) ⟨(H1.out.1).set hb (by omega) _, (setCells_heap _ 0 _ _ H1.out.2.2).trans (by rw [putA_all prtZ ⟨false, oneS N.n, oneS N.n⟩ rfl])⟩ fun y hy => ?_
  have hv := load_prt hy.2
  have HN := Lib.hid hy.1
  clear hy
  go_wp2_with fail
  refine bodyPost_ret (v := .agg (prtA ⟨false, oneS N.n, oneS N.n⟩)) (by simp [results, Tryd.results49, asAddr, hv]) rfl ⟨rfl, ?_⟩
  exact HN.out
set_option maxHeartbeats 8000000 in
theorem lay_3 {D : Nat → Prop} {b : Nat} {N : Net} {u : Nat → Int} {ps : List RT} {v : Value} {w : World} (hnet : w.heap[b]? = some (.cells (netC N) 94 (0, 0))) (hD : ∀ z, D z → z < b) (h : RV D w (.mk 3 u ps) v) (hn : N.n + szL ps ≤ 512) (hI : ∀ i (hi : i < ps.length), LP b D ps[i]) :
    Calls Tryd.prog 49 #[.pointer (some ⟨b, 0, none⟩), v] w fun e w' => e = .returned (.agg (prtA (rowN ps N ⟨true, noS, noS⟩).2)) ∧ Nk b (rowN ps N ⟨true, noS, noS⟩).1 w w' := by
  obtain ⟨p, c, rfl, hp⟩ := h.parts
  have hz := zero27l
  have hb := (Array.getElem?_eq_some_iff.1 hnet).1
  have S0 : Hid (LQ b w.heap.size #[.int .i64 3, .int .u64 (u 0), .int .u64 (u 1), .int .u64 (u 2), .int .u64 (u 3), .slice p ps.length c] N w ((w.alloc (.cells #[.int .i64 3, .int .u64 (u 0), .int .u64 (u 1), .int .u64 (u 2), .int .u64 (u 3), .slice p ps.length c] 27)).alloc (.cells prtZ 96))) := Lib.hid (by
    refine ⟨(Nk.start hnet).up (((Below.refl _ _).alloc (Nat.le_refl _) _).alloc (by simp) _), ?_, ?_⟩
    · rw [heap_alloc2_old]
    · rw [heap_alloc2_new])
  have HPV : Hid (PVs D ((w.alloc (.cells #[.int .i64 3, .int .u64 (u 0), .int .u64 (u 1), .int .u64 (u 2), .int .u64 (u 3), .slice p ps.length c] 27)).alloc (.cells prtZ 96)) ps p) := Lib.hid (PVs.mono (fun z hz' => S0.out.1.2.1.block z (hD z hz')) hp)
  clear h hp hnet
  go_enter Tryd.func49, Tryd.ntmps49
  go_upto_region 9 with fail
  rw [show (#[.bool false, .int .u64 0, .int .u64 0, .int .u64 0, .int .u64 0, .int .u64 0, .int .u64 0, .int .u64 0, .int .u64 0, .int .u64 0, .int .u64 0, .int .u64 0, .int .u64 0, .int .u64 0, .int .u64 0, .int .u64 0, .int .u64 0] : Array Value) = prtZ from rfl]
  generalize ((w.alloc (.cells #[.int .i64 3, .int .u64 (u 0), .int .u64 (u 1), .int .u64 (u 2), .int .u64 (u 3), .slice p ps.length c] 27)).alloc (.cells prtZ 96)) = ws at *
  refine wp_region_list ?_
  have HS := Lib.hid (lrow_walk (c := c) S0.out.1.1 hD hn (by have := len_szL ps; omega) HPV.out hI)
  have c5 : ws.cell? ⟨w.heap.size, 5, none⟩ = some (.slice p ps.length c) := S0.out.c 5
  refine wpList_plain rfl fun K hK => ?_
  have hK2 := Lib.hid hK
  clear hK
  go_wp2_with fail
  refine hK2.out _ _ ?_
  clear hK2 K
  refine wpList_plain rfl fun K hK => ?_
  have hK2 := Lib.hid hK
  clear hK
  go_wp2_with fail
  refine hK2.out _ _ ?_
  clear hK2 K
  refine wpList_plain rfl fun K hK => ?_
  have hK2 := Lib.hid hK
  clear hK
  go_wp2_with fail
  refine hK2.out _ _ ?_
  clear hK2 K
  refine wpList_plain rfl fun K hK => ?_
  have hK2 := Lib.hid hK
  clear hK
  go_wp2_with fail
  refine (HS.out).mono ?_
  rintro _ x1 ⟨rfl, hk⟩
  refine hK2.out _ _ ?_
  clear hK2 K
  have H1 := Lib.hid (S0.out.step hb hk)
  clear hk HS c5 S0
  refine wpList_plain rfl fun K hK => wp_store_prt (.tmp 4) (.tmp 25) rfl (w.heap.size + 1) prtZ (rowN ps N ⟨true, noS, noS⟩).2 rfl rfl (H1.out.2.2) (rfl) (hK _ _ ?_)
  simp only [Act.put]
  refine wpList_nil ?_
  refine at_worldQ (fun y => Nk b (rowN ps N ⟨true, noS, noS⟩).1 w y ∧ y.heap[w.heap.size + 1]? = some (.cells (prtA (rowN ps N ⟨true, noS, noS⟩).2) 96 (0, 0))) ⟨(H1.out.1).set hb (by omega) _, (setCells_heap _ 0 _ _ H1.out.2.2).trans (by rw [putA_all prtZ (rowN ps N ⟨true, noS, noS⟩).2 rfl])⟩ fun y hy => ?_
  have hv := load_prt hy.2
  have HN := Lib.hid hy.1
  clear hy
  go_wp2_with fail
  refine bodyPost_ret (v := .agg (prtA (rowN ps N ⟨true, noS, noS⟩).2)) (by simp [results, Tryd.results49, asAddr, hv]) rfl ⟨rfl, ?_⟩
  exact HN.out
set_option maxHeartbeats 8000000 in
theorem lay_4 {D : Nat → Prop} {b : Nat} {N : Net} {u : Nat → Int} {ps : List RT} {v : Value} {w : World} (hnet : w.heap[b]? = some (.cells (netC N) 94 (0, 0))) (hD : ∀ z, D z → z < b) (h : RV D w (.mk 4 u ps) v) (hn : N.n + szL ps ≤ 512) (hI : ∀ i (hi : i < ps.length), LP b D ps[i]) :
    Calls Tryd.prog 49 #[.pointer (some ⟨b, 0, none⟩), v] w fun e w' => e = .returned (.agg (prtA (choN ps N ⟨false, noS, noS⟩).2)) ∧ Nk b (choN ps N ⟨false, noS, noS⟩).1 w w' := by
  obtain ⟨p, c, rfl, hp⟩ := h.parts
  have hz := zero27l
  have hb := (Array.getElem?_eq_some_iff.1 hnet).1
  have S0 : Hid (LQ b w.heap.size #[.int .i64 4, .int .u64 (u 0), .int .u64 (u 1), .int .u64 (u 2), .int .u64 (u 3), .slice p ps.length c] N w ((w.alloc (.cells #[.int .i64 4, .int .u64 (u 0), .int .u64 (u 1), .int .u64 (u 2), .int .u64 (u 3), .slice p ps.length c] 27)).alloc (.cells prtZ 96))) := Lib.hid (by
    refine ⟨(Nk.start hnet).up (((Below.refl _ _).alloc (Nat.le_refl _) _).alloc (by simp) _), ?_, ?_⟩
    · rw [heap_alloc2_old]
    · rw [heap_alloc2_new])
  have HPV : Hid (PVs D ((w.alloc (.cells #[.int .i64 4, .int .u64 (u 0), .int .u64 (u 1), .int .u64 (u 2), .int .u64 (u 3), .slice p ps.length c] 27)).alloc (.cells prtZ 96)) ps p) := Lib.hid (PVs.mono (fun z hz' => S0.out.1.2.1.block z (hD z hz')) hp)
  clear h hp hnet
  go_enter Tryd.func49, Tryd.ntmps49
  go_upto_region 11 with fail
  rw [show (#[.bool false, .int .u64 0, .int .u64 0, .int .u64 0, .int .u64 0, .int .u64 0, .int .u64 0, .int .u64 0, .int .u64 0, .int .u64 0, .int .u64 0, .int .u64 0, .int .u64 0, .int .u64 0, .int .u64 0, .int .u64 0, .int .u64 0] : Array Value) = prtZ from rfl]
  generalize ((w.alloc (.cells #[.int .i64 4, .int .u64 (u 0), .int .u64 (u 1), .int .u64 (u 2), .int .u64 (u 3), .slice p ps.length c] 27)).alloc (.cells prtZ 96)) = ws at *
  refine wp_region_list ?_
  have HS := Lib.hid (lcho_walk (c := c) S0.out.1.1 hD hn (by have := len_szL ps; omega) HPV.out hI)
  have c5 : ws.cell? ⟨w.heap.size, 5, none⟩ = some (.slice p ps.length c) := S0.out.c 5
  refine wpList_plain rfl fun K hK => ?_
  have hK2 := Lib.hid hK
  clear hK
  go_wp2_with fail
  refine hK2.out _ _ ?_
  clear hK2 K
  refine wpList_plain rfl fun K hK => ?_
  have hK2 := Lib.hid hK
  clear hK
  go_wp2_with fail
  refine hK2.out _ _ ?_
  clear hK2 K
  refine wpList_plain rfl fun K hK => ?_
  have hK2 := Lib.hid hK
  clear hK
  go_wp2_with fail
  refine hK2.out _ _ ?_
  clear hK2 K
  refine wpList_plain rfl fun K hK => ?_
  have hK2 := Lib.hid hK
  clear hK
  go_wp2_with fail
  refine (HS.out).mono ?_
  rintro _ x1 ⟨rfl, hk⟩
  refine hK2.out _ _ ?_
  clear hK2 K
  have H1 := Lib.hid (S0.out.step hb hk)
  clear hk HS c5 S0
  refine wpList_plain rfl fun K hK => wp_store_prt (.tmp 4) (.tmp 31) rfl (w.heap.size + 1) prtZ (choN ps N ⟨false, noS, noS⟩).2 rfl rfl (H1.out.2.2) (rfl) (hK _ _ ?_)
  simp only [Act.put]
  refine wpList_nil ?_
  refine at_worldQ (fun y => Nk b (choN ps N ⟨false, noS, noS⟩).1 w y ∧ y.heap[w.heap.size + 1]? = some (.cells (prtA (choN ps N ⟨false, noS, noS⟩).2) 96 (0, 0))) ⟨(H1.out.1).set hb (by omega) _, (setCells_heap _ 0 _ _ H1.out.2.2).trans (by rw [putA_all prtZ (choN ps N ⟨false, noS, noS⟩).2 rfl])⟩ fun y hy => ?_
  have hv := load_prt hy.2
  have HN := Lib.hid hy.1
  clear hy
  go_wp2_with fail
  refine bodyPost_ret (v := .agg (prtA (choN ps N ⟨false, noS, noS⟩).2)) (by simp [results, Tryd.results49, asAddr, hv]) rfl ⟨rfl, ?_⟩
  exact HN.out
set_option maxHeartbeats 8000000 in
theorem lay_5 {D : Nat → Prop} {b : Nat} {N : Net} {u : Nat → Int} {ps : List RT} {v : Value} {w : World} (hnet : w.heap[b]? = some (.cells (netC N) 94 (0, 0))) (hD : ∀ z, D z → z < b) (h : RV D w (.mk 5 u ps) v) (hl : ps.length = 1) (hn : N.n + szL ps ≤ 512) (hI : ∀ i (hi : i < ps.length), LP b D ps[i]) (Kn : Net) (q : Prt) (hX : layN (ps[0]'(by omega)) N = (Kn, q)) :
    Calls Tryd.prog 49 #[.pointer (some ⟨b, 0, none⟩), v] w fun e w' => e = .returned (.agg (prtA ⟨q.e || true, q.f, q.l⟩)) ∧ Nk b (Kn.link q.l q.f) w w' := by
  obtain ⟨p, c, rfl, hp⟩ := h.parts
  have hz := zero27l
  have hb := (Array.getElem?_eq_some_iff.1 hnet).1
  have S0 : Hid (LQ b w.heap.size #[.int .i64 5, .int .u64 (u 0), .int .u64 (u 1), .int .u64 (u 2), .int .u64 (u 3), .slice p ps.length c] N w ((w.alloc (.cells #[.int .i64 5, .int .u64 (u 0), .int .u64 (u 1), .int .u64 (u 2), .int .u64 (u 3), .slice p ps.length c] 27)).alloc (.cells prtZ 96))) := Lib.hid (by
    refine ⟨(Nk.start hnet).up (((Below.refl _ _).alloc (Nat.le_refl _) _).alloc (by simp) _), ?_, ?_⟩
    · rw [heap_alloc2_old]
    · rw [heap_alloc2_new])
  have HPV : Hid (PVs D ((w.alloc (.cells #[.int .i64 5, .int .u64 (u 0), .int .u64 (u 1), .int .u64 (u 2), .int .u64 (u 3), .slice p ps.length c] 27)).alloc (.cells prtZ 96)) ps p) := Lib.hid (PVs.mono (fun z hz' => S0.out.1.2.1.block z (hD z hz')) hp)
  clear h hp hnet
  have h0 : 0 < ps.length := by omega
  have hne : ps ≠ [] := by intro e; subst e; simp at hl
  obtain ⟨b', o, rfl, hDb, hx⟩ := HPV.out hne
  obtain ⟨k', u', p', n', c', hv, hcell⟩ := hx 0 h0
  have hln := lay_n ps[0] N
  have hsz : sz ps[0] ≤ szL ps := by
    match ps, h0 with
    | t :: ts, _ => simp only [List.getElem_cons_zero, szL]; omega
  have HIj := Lib.hid ((hI 0 h0).out N _ _ S0.out.1.1 (by omega) hv)
  rw [hX] at HIj hln
  clear hx hX hI HPV hl
  go_enter Tryd.func49, Tryd.ntmps49
  go_upto_region 12 with fail
  rw [show (#[.bool false, .int .u64 0, .int .u64 0, .int .u64 0, .int .u64 0, .int .u64 0, .int .u64 0, .int .u64 0, .int .u64 0, .int .u64 0, .int .u64 0, .int .u64 0, .int .u64 0, .int .u64 0, .int .u64 0, .int .u64 0, .int .u64 0] : Array Value) = prtZ from rfl]
  generalize ((w.alloc (.cells #[.int .i64 5, .int .u64 (u 0), .int .u64 (u 1), .int .u64 (u 2), .int .u64 (u 3), .slice (some ⟨b', o, none⟩) ps.length c] 27)).alloc (.cells prtZ 96)) = ws at *
  refine wp_region_list ?_
  have c5 : ws.cell? ⟨w.heap.size, 5, none⟩ = some (.slice (some ⟨b', o, none⟩) ps.length c) := S0.out.c 5
  have hi0 : (0 : Int) < (ps.length : Int) := by omega
  have d0 : ws.cell? ⟨b', o, none⟩ = some (.int .i64 k') := by have e := hcell 0 (.int .i64 k') rfl; simpa using e
  have d1 : ws.cell? ⟨b', o + 1, none⟩ = some (.int .u64 (u' 0)) := by have e := hcell 1 (.int .u64 (u' 0)) rfl; simpa using e
  have d2 : ws.cell? ⟨b', o + 2, none⟩ = some (.int .u64 (u' 1)) := by have e := hcell 2 (.int .u64 (u' 1)) rfl; simpa using e
  have d3 : ws.cell? ⟨b', o + 3, none⟩ = some (.int .u64 (u' 2)) := by have e := hcell 3 (.int .u64 (u' 2)) rfl; simpa using e
  have d4 : ws.cell? ⟨b', o + 4, none⟩ = some (.int .u64 (u' 3)) := by have e := hcell 4 (.int .u64 (u' 3)) rfl; simpa using e
  have d5 : ws.cell? ⟨b', o + 5, none⟩ = some (.slice p' n' c') := by have e := hcell 5 (.slice p' n' c') rfl; simpa using e
  clear hcell
  refine wpList_plain rfl fun K hK => ?_
  have hK2 := Lib.hid hK
  clear hK
  go_wp2_with fail
  refine hK2.out _ _ ?_
  clear hK2 K
  refine wpList_plain rfl fun K hK => ?_
  have hK2 := Lib.hid hK
  clear hK
  go_wp2_with fail
  refine hK2.out _ _ ?_
  clear hK2 K
  refine wpList_plain rfl fun K hK => ?_
  have hK2 := Lib.hid hK
  clear hK
  go_wp2_with fail
  refine hK2.out _ _ ?_
  clear hK2 K
  refine wpList_plain rfl fun K hK => ?_
  have hK2 := Lib.hid hK
  clear hK
  go_wp2_with fail
  refine hK2.out _ _ ?_
  clear hK2 K
  refine wpList_plain rfl fun K hK => ?_
  have hK2 := Lib.hid hK
  clear hK
  go_wp2_with fail
  refine hK2.out _ _ ?_
  clear hK2 K
  refine wpList_plain rfl fun K hK => ?_
  have hK2 := Lib.hid hK
  clear hK
  go_wp2_with fail
  refine (HIj.out).mono ?_
  rintro _ x1 ⟨rfl, hk⟩
  refine hK2.out _ _ ?_
  clear hK2 K
  have H1 := Lib.hid (S0.out.step hb hk)
  clear hk HIj S0 c5 d0 d1 d2 d3 d4 d5 hv
  refine wpList_plain rfl fun K hK => ?_
  have hK2 := Lib.hid hK
  clear hK
  go_wp2_with fail
  refine hK2.out _ _ ?_
  clear hK2 K
  rw [show (#[.bool false, .int .u64 0, .int .u64 0, .int .u64 0, .int .u64 0, .int .u64 0, .int .u64 0, .int .u64 0, .int .u64 0, .int .u64 0, .int .u64 0, .int .u64 0, .int .u64 0, .int .u64 0, .int .u64 0, .int .u64 0, .int .u64 0] : Array Value) = prtZ from rfl]
  refine wpList_plain rfl fun K hK => wp_store_new 96 (.tmp 5) (.tmp 37) rfl prtZ (prtA q) _ (by simp) rfl rfl (by rw [info70, prtA_size]) (by rw [prtA_size]; rfl) (prtA_one q) (hK _ _ ?_)
  simp only [Act.put]
  refine wpList_nil ?_
  refine at_worldQ (fun y => LW b w.heap.size x1.heap.size #[.int .i64 5, .int .u64 (u 0), .int .u64 (u 1), .int .u64 (u 2), .int .u64 (u 3), .slice (some ⟨b', o, none⟩) ps.length c] Kn q w y) ⟨H1.out.up ((Below.refl _ _).alloc (Nat.le_refl _) _), heap_alloc_last x1 _⟩ fun x2 hx2 => ?_
  have H2 := Lib.hid hx2
  have hAP : w.heap.size + 1 < x1.heap.size := H1.out.lt
  clear hx2 H1
  generalize x1.heap.size = P at *
  have k0 : x2.cell? ⟨w.heap.size, 0, none⟩ = some (.int .i64 5) := H2.out.1.c 0
  have HLk := Lib.hid (link_any q.l q.f H2.out.1.1.1 (by show Kn.n ≤ 512; omega))
  go_upto_region 14 with fail
  refine wp_region_list ?_
  refine wpList_plain rfl fun K hK => ?_
  have hK2 := Lib.hid hK
  clear hK
  go_wp2_with fail
  refine hK2.out _ _ ?_
  clear hK2 K
  refine wpList_plain rfl fun K hK => ?_
  have hK2 := Lib.hid hK
  clear hK
  go_wp2_with fail
  refine hK2.out _ _ ?_
  clear hK2 K
  refine wpList_plain rfl fun K hK => wp_load_sp (.tmp 42) rfl P 9 rfl q.l (H2.out.rpl) (hK _ _ ?_)
  simp only [Act.put, List.setIfInBounds_toArray, List.set_cons_succ, List.set_cons_zero]
  refine wpList_plain rfl fun K hK => ?_
  have hK2 := Lib.hid hK
  clear hK
  go_wp2_with fail
  refine hK2.out _ _ ?_
  clear hK2 K
  refine wpList_plain rfl fun K hK => wp_load_sp (.tmp 44) rfl P 1 rfl q.f (H2.out.rpf) (hK _ _ ?_)
  simp only [Act.put, List.setIfInBounds_toArray, List.set_cons_succ, List.set_cons_zero]
  refine wpList_plain rfl fun K hK => ?_
  have hK2 := Lib.hid hK
  clear hK
  go_wp2_with fail
  refine (HLk.out).mono ?_
  rintro _ x3 ⟨rfl, hk⟩
  refine hK2.out _ _ ?_
  clear hK2 K
  refine wpList_nil ?_
  have H3 := Lib.hid (H2.out.step hb hAP hk)
  clear hk HLk H2 k0
  have k0 : x3.cell? ⟨w.heap.size, 0, none⟩ = some (.int .i64 5) := H3.out.1.c 0
  have p0 : x3.cell? ⟨P, 0, none⟩ = some (.bool q.e) := H3.out.p 0
  have fp0 : x3.frozen? ⟨P, 0, none⟩ = false := H3.out.fp 0
  go_upto_region 15 with fail
  go_cut [] from 32 to 55 (fun wx => LW b w.heap.size P #[.int .i64 5, .int .u64 (u 0), .int .u64 (u 1), .int .u64 (u 2), .int .u64 (u 3), .slice (some ⟨b', o, none⟩) ps.length c] (Kn.link q.l q.f) ⟨q.e || true, q.f, q.l⟩ w wx)
  case first =>
    cases hae : q.e with
    | true =>
      rw [hae] at p0
      go_wp2_with fail
      go_meet
      case rel => exact H3.out.setP hb rfl hAP 0 [.bool true] (by rw [putA_e]; simp [hae])
    | false =>
      rw [hae] at p0
      go_wp2_with fail
      go_meet
      case rel => exact H3.out.setP hb rfl hAP 0 [.bool true] (by rw [putA_e]; simp [hae])
  case rest =>
    have H4 := Lib.hid hcut
    clear hcut H3 k0 p0 fp0
    go_upto_region 16 with fail
    refine wp_region_list ?_
    refine wpList_plain rfl fun K hK => wp_load_prt (.tmp 5) rfl P rfl ⟨q.e || true, q.f, q.l⟩ (H4.out.2) (hK _ _ ?_)
    simp only [Act.put, List.setIfInBounds_toArray, List.set_cons_succ, List.set_cons_zero]
    refine wpList_plain rfl fun K hK => wp_store_prt (.tmp 4) (.tmp 55) rfl (w.heap.size + 1) prtZ ⟨q.e || true, q.f, q.l⟩ rfl rfl (H4.out.1.2.2) (rfl) (hK _ _ ?_)
    simp only [Act.put]
    refine wpList_nil ?_
    refine at_worldQ (fun y => Nk b (Kn.link q.l q.f) w y ∧ y.heap[w.heap.size + 1]? = some (.cells (prtA ⟨q.e || true, q.f, q.l⟩) 96 (0, 0))) ⟨(H4.out.1.1).set hb (by omega) _, (setCells_heap _ 0 _ _ H4.out.1.2.2).trans (by rw [putA_all prtZ ⟨q.e || true, q.f, q.l⟩ rfl])⟩ fun y hy => ?_
    have hv := load_prt hy.2
    have HN := Lib.hid hy.1
    clear hy
    go_wp2_with fail
    refine bodyPost_ret (v := .agg (prtA ⟨q.e || true, q.f, q.l⟩)) (by simp [results, Tryd.results49, asAddr, hv]) rfl ⟨rfl, ?_⟩
    exact HN.out
set_option maxHeartbeats 8000000 in
theorem lay_6 {D : Nat → Prop} {b : Nat} {N : Net} {u : Nat → Int} {ps : List RT} {v : Value} {w : World} (hnet : w.heap[b]? = some (.cells (netC N) 94 (0, 0))) (hD : ∀ z, D z → z < b) (h : RV D w (.mk 6 u ps) v) (hl : ps.length = 1) (hn : N.n + szL ps ≤ 512) (hI : ∀ i (hi : i < ps.length), LP b D ps[i]) (Kn : Net) (q : Prt) (hX : layN (ps[0]'(by omega)) N = (Kn, q)) :
    Calls Tryd.prog 49 #[.pointer (some ⟨b, 0, none⟩), v] w fun e w' => e = .returned (.agg (prtA ⟨q.e || false, q.f, q.l⟩)) ∧ Nk b (Kn.link q.l q.f) w w' := by
  obtain ⟨p, c, rfl, hp⟩ := h.parts
  have hz := zero27l
  have hb := (Array.getElem?_eq_some_iff.1 hnet).1
  have S0 : Hid (LQ b w.heap.size #[.int .i64 6, .int .u64 (u 0), .int .u64 (u 1), .int .u64 (u 2), .int .u64 (u 3), .slice p ps.length c] N w ((w.alloc (.cells #[.int .i64 6, .int .u64 (u 0), .int .u64 (u 1), .int .u64 (u 2), .int .u64 (u 3), .slice p ps.length c] 27)).alloc (.cells prtZ 96))) := Lib.hid (by
    refine ⟨(Nk.start hnet).up (((Below.refl _ _).alloc (Nat.le_refl _) _).alloc (by simp) _), ?_, ?_⟩
    · rw [heap_alloc2_old]
    · rw [heap_alloc2_new])
  have HPV : Hid (PVs D ((w.alloc (.cells #[.int .i64 6, .int .u64 (u 0), .int .u64 (u 1), .int .u64 (u 2), .int .u64 (u 3), .slice p ps.length c] 27)).alloc (.cells prtZ 96)) ps p) := Lib.hid (PVs.mono (fun z hz' => S0.out.1.2.1.block z (hD z hz')) hp)
  clear h hp hnet
  have h0 : 0 < ps.length := by omega
  have hne : ps ≠ [] := by intro e; subst e; simp at hl
  obtain ⟨b', o, rfl, hDb, hx⟩ := HPV.out hne
  obtain ⟨k', u', p', n', c', hv, hcell⟩ := hx 0 h0
  have hln := lay_n ps[0] N
  have hsz : sz ps[0] ≤ szL ps := by
    match ps, h0 with
    | t :: ts, _ => simp only [List.getElem_cons_zero, szL]; omega
  have HIj := Lib.hid ((hI 0 h0).out N _ _ S0.out.1.1 (by omega) hv)
  rw [hX] at HIj hln
  clear hx hX hI HPV hl
  go_enter Tryd.func49, Tryd.ntmps49
  go_upto_region 12 with fail
  rw [show (#[.bool false, .int .u64 0, .int .u64 0, .int .u64 0, .int .u64 0, .int .u64 0, .int .u64 0, .int .u64 0, .int .u64 0, .int .u64 0, .int .u64 0, .int .u64 0, .int .u64 0, .int .u64 0, .int .u64 0, .int .u64 0, .int .u64 0] : Array Value) = prtZ from rfl]
  generalize ((w.alloc (.cells #[.int .i64 6, .int .u64 (u 0), .int .u64 (u 1), .int .u64 (u 2), .int .u64 (u 3), .slice (some ⟨b', o, none⟩) ps.length c] 27)).alloc (.cells prtZ 96)) = ws at *
  refine wp_region_list ?_
  have c5 : ws.cell? ⟨w.heap.size, 5, none⟩ = some (.slice (some ⟨b', o, none⟩) ps.length c) := S0.out.c 5
  have hi0 : (0 : Int) < (ps.length : Int) := by omega
  have d0 : ws.cell? ⟨b', o, none⟩ = some (.int .i64 k') := by have e := hcell 0 (.int .i64 k') rfl; simpa using e
  have d1 : ws.cell? ⟨b', o + 1, none⟩ = some (.int .u64 (u' 0)) := by have e := hcell 1 (.int .u64 (u' 0)) rfl; simpa using e
  have d2 : ws.cell? ⟨b', o + 2, none⟩ = some (.int .u64 (u' 1)) := by have e := hcell 2 (.int .u64 (u' 1)) rfl; simpa using e
  have d3 : ws.cell? ⟨b', o + 3, none⟩ = some (.int .u64 (u' 2)) := by have e := hcell 3 (.int .u64 (u' 2)) rfl; simpa using e
  have d4 : ws.cell? ⟨b', o + 4, none⟩ = some (.int .u64 (u' 3)) := by have e := hcell 4 (.int .u64 (u' 3)) rfl; simpa using e
  have d5 : ws.cell? ⟨b', o + 5, none⟩ = some (.slice p' n' c') := by have e := hcell 5 (.slice p' n' c') rfl; simpa using e
  clear hcell
  refine wpList_plain rfl fun K hK => ?_
  have hK2 := Lib.hid hK
  clear hK
  go_wp2_with fail
  refine hK2.out _ _ ?_
  clear hK2 K
  refine wpList_plain rfl fun K hK => ?_
  have hK2 := Lib.hid hK
  clear hK
  go_wp2_with fail
  refine hK2.out _ _ ?_
  clear hK2 K
  refine wpList_plain rfl fun K hK => ?_
  have hK2 := Lib.hid hK
  clear hK
  go_wp2_with fail
  refine hK2.out _ _ ?_
  clear hK2 K
  refine wpList_plain rfl fun K hK => ?_
  have hK2 := Lib.hid hK
  clear hK
  go_wp2_with fail
  refine hK2.out _ _ ?_
  clear hK2 K
  refine wpList_plain rfl fun K hK => ?_
  have hK2 := Lib.hid hK
  clear hK
  go_wp2_with fail
  refine hK2.out _ _ ?_
  clear hK2 K
  refine wpList_plain rfl fun K hK => ?_
  have hK2 := Lib.hid hK
  clear hK
  go_wp2_with fail
  refine (HIj.out).mono ?_
  rintro _ x1 ⟨rfl, hk⟩
  refine hK2.out _ _ ?_
  clear hK2 K
  have H1 := Lib.hid (S0.out.step hb hk)
  clear hk HIj S0 c5 d0 d1 d2 d3 d4 d5 hv
  refine wpList_plain rfl fun K hK => ?_
  have hK2 := Lib.hid hK
  clear hK
  go_wp2_with fail
  refine hK2.out _ _ ?_
  clear hK2 K
  rw [show (#[.bool false, .int .u64 0, .int .u64 0, .int .u64 0, .int .u64 0, .int .u64 0, .int .u64 0, .int .u64 0, .int .u64 0, .int .u64 0, .int .u64 0, .int .u64 0, .int .u64 0, .int .u64 0, .int .u64 0, .int .u64 0, .int .u64 0] : Array Value) = prtZ from rfl]
  refine wpList_plain rfl fun K hK => wp_store_new 96 (.tmp 5) (.tmp 37) rfl prtZ (prtA q) _ (by simp) rfl rfl (by rw [info70, prtA_size]) (by rw [prtA_size]; rfl) (prtA_one q) (hK _ _ ?_)
  simp only [Act.put]
  refine wpList_nil ?_
  refine at_worldQ (fun y => LW b w.heap.size x1.heap.size #[.int .i64 6, .int .u64 (u 0), .int .u64 (u 1), .int .u64 (u 2), .int .u64 (u 3), .slice (some ⟨b', o, none⟩) ps.length c] Kn q w y) ⟨H1.out.up ((Below.refl _ _).alloc (Nat.le_refl _) _), heap_alloc_last x1 _⟩ fun x2 hx2 => ?_
  have H2 := Lib.hid hx2
  have hAP : w.heap.size + 1 < x1.heap.size := H1.out.lt
  clear hx2 H1
  generalize x1.heap.size = P at *
  have k0 : x2.cell? ⟨w.heap.size, 0, none⟩ = some (.int .i64 6) := H2.out.1.c 0
  have HLk := Lib.hid (link_any q.l q.f H2.out.1.1.1 (by show Kn.n ≤ 512; omega))
  go_upto_region 14 with fail
  refine wp_region_list ?_
  refine wpList_plain rfl fun K hK => ?_
  have hK2 := Lib.hid hK
  clear hK
  go_wp2_with fail
  refine hK2.out _ _ ?_
  clear hK2 K
  refine wpList_plain rfl fun K hK => ?_
  have hK2 := Lib.hid hK
  clear hK
  go_wp2_with fail
  refine hK2.out _ _ ?_
  clear hK2 K
  refine wpList_plain rfl fun K hK => wp_load_sp (.tmp 42) rfl P 9 rfl q.l (H2.out.rpl) (hK _ _ ?_)
  simp only [Act.put, List.setIfInBounds_toArray, List.set_cons_succ, List.set_cons_zero]
  refine wpList_plain rfl fun K hK => ?_
  have hK2 := Lib.hid hK
  clear hK
  go_wp2_with fail
  refine hK2.out _ _ ?_
  clear hK2 K
  refine wpList_plain rfl fun K hK => wp_load_sp (.tmp 44) rfl P 1 rfl q.f (H2.out.rpf) (hK _ _ ?_)
  simp only [Act.put, List.setIfInBounds_toArray, List.set_cons_succ, List.set_cons_zero]
  refine wpList_plain rfl fun K hK => ?_
  have hK2 := Lib.hid hK
  clear hK
  go_wp2_with fail
  refine (HLk.out).mono ?_
  rintro _ x3 ⟨rfl, hk⟩
  refine hK2.out _ _ ?_
  clear hK2 K
  refine wpList_nil ?_
  have H3 := Lib.hid (H2.out.step hb hAP hk)
  clear hk HLk H2 k0
  have k0 : x3.cell? ⟨w.heap.size, 0, none⟩ = some (.int .i64 6) := H3.out.1.c 0
  have p0 : x3.cell? ⟨P, 0, none⟩ = some (.bool q.e) := H3.out.p 0
  have fp0 : x3.frozen? ⟨P, 0, none⟩ = false := H3.out.fp 0
  go_upto_region 15 with fail
  go_cut [] from 32 to 55 (fun wx => LW b w.heap.size P #[.int .i64 6, .int .u64 (u 0), .int .u64 (u 1), .int .u64 (u 2), .int .u64 (u 3), .slice (some ⟨b', o, none⟩) ps.length c] (Kn.link q.l q.f) ⟨q.e || false, q.f, q.l⟩ w wx)
  case first =>
    cases hae : q.e with
    | true =>
      rw [hae] at p0
      go_wp2_with fail
      go_meet
      case rel => exact H3.out.setP hb rfl hAP 0 [.bool true] (by rw [putA_e]; simp [hae])
    | false =>
      rw [hae] at p0
      go_wp2_with fail
      go_meet
      case rel => exact H3.out.setP hb rfl hAP 0 [.bool false] (by rw [putA_e]; simp [hae])
  case rest =>
    have H4 := Lib.hid hcut
    clear hcut H3 k0 p0 fp0
    go_upto_region 16 with fail
    refine wp_region_list ?_
    refine wpList_plain rfl fun K hK => wp_load_prt (.tmp 5) rfl P rfl ⟨q.e || false, q.f, q.l⟩ (H4.out.2) (hK _ _ ?_)
    simp only [Act.put, List.setIfInBounds_toArray, List.set_cons_succ, List.set_cons_zero]
    refine wpList_plain rfl fun K hK => wp_store_prt (.tmp 4) (.tmp 55) rfl (w.heap.size + 1) prtZ ⟨q.e || false, q.f, q.l⟩ rfl rfl (H4.out.1.2.2) (rfl) (hK _ _ ?_)
    simp only [Act.put]
    refine wpList_nil ?_
    refine at_worldQ (fun y => Nk b (Kn.link q.l q.f) w y ∧ y.heap[w.heap.size + 1]? = some (.cells (prtA ⟨q.e || false, q.f, q.l⟩) 96 (0, 0))) ⟨(H4.out.1.1).set hb (by omega) _, (setCells_heap _ 0 _ _ H4.out.1.2.2).trans (by rw [putA_all prtZ ⟨q.e || false, q.f, q.l⟩ rfl])⟩ fun y hy => ?_
    have hv := load_prt hy.2
    have HN := Lib.hid hy.1
    clear hy
    go_wp2_with fail
    refine bodyPost_ret (v := .agg (prtA ⟨q.e || false, q.f, q.l⟩)) (by simp [results, Tryd.results49, asAddr, hv]) rfl ⟨rfl, ?_⟩
    exact HN.out
set_option maxHeartbeats 8000000 in
theorem lay_7 {D : Nat → Prop} {b : Nat} {N : Net} {u : Nat → Int} {ps : List RT} {v : Value} {w : World} (hnet : w.heap[b]? = some (.cells (netC N) 94 (0, 0))) (hD : ∀ z, D z → z < b) (h : RV D w (.mk 7 u ps) v) (hl : ps.length = 1) (hn : N.n + szL ps ≤ 512) (hI : ∀ i (hi : i < ps.length), LP b D ps[i]) (Kn : Net) (q : Prt) (hX : layN (ps[0]'(by omega)) N = (Kn, q)) :
    Calls Tryd.prog 49 #[.pointer (some ⟨b, 0, none⟩), v] w fun e w' => e = .returned (.agg (prtA ⟨q.e || true, q.f, q.l⟩)) ∧ Nk b Kn w w' := by
  obtain ⟨p, c, rfl, hp⟩ := h.parts
  have hz := zero27l
  have hb := (Array.getElem?_eq_some_iff.1 hnet).1
  have S0 : Hid (LQ b w.heap.size #[.int .i64 7, .int .u64 (u 0), .int .u64 (u 1), .int .u64 (u 2), .int .u64 (u 3), .slice p ps.length c] N w ((w.alloc (.cells #[.int .i64 7, .int .u64 (u 0), .int .u64 (u 1), .int .u64 (u 2), .int .u64 (u 3), .slice p ps.length c] 27)).alloc (.cells prtZ 96))) := Lib.hid (by
    refine ⟨(Nk.start hnet).up (((Below.refl _ _).alloc (Nat.le_refl _) _).alloc (by simp) _), ?_, ?_⟩
    · rw [heap_alloc2_old]
    · rw [heap_alloc2_new])
  have HPV : Hid (PVs D ((w.alloc (.cells #[.int .i64 7, .int .u64 (u 0), .int .u64 (u 1), .int .u64 (u 2), .int .u64 (u 3), .slice p ps.length c] 27)).alloc (.cells prtZ 96)) ps p) := Lib.hid (PVs.mono (fun z hz' => S0.out.1.2.1.block z (hD z hz')) hp)
  clear h hp hnet
  have h0 : 0 < ps.length := by omega
  have hne : ps ≠ [] := by intro e; subst e; simp at hl
  obtain ⟨b', o, rfl, hDb, hx⟩ := HPV.out hne
  obtain ⟨k', u', p', n', c', hv, hcell⟩ := hx 0 h0
  have hln := lay_n ps[0] N
  have hsz : sz ps[0] ≤ szL ps := by
    match ps, h0 with
    | t :: ts, _ => simp only [List.getElem_cons_zero, szL]; omega
  have HIj := Lib.hid ((hI 0 h0).out N _ _ S0.out.1.1 (by omega) hv)
  rw [hX] at HIj hln
  clear hx hX hI HPV hl
  go_enter Tryd.func49, Tryd.ntmps49
  go_upto_region 12 with fail
  rw [show (#[.bool false, .int .u64 0, .int .u64 0, .int .u64 0, .int .u64 0, .int .u64 0, .int .u64 0, .int .u64 0, .int .u64 0, .int .u64 0, .int .u64 0, .int .u64 0, .int .u64 0, .int .u64 0, .int .u64 0, .int .u64 0, .int .u64 0] : Array Value) = prtZ from rfl]
  generalize ((w.alloc (.cells #[.int .i64 7, .int .u64 (u 0), .int .u64 (u 1), .int .u64 (u 2), .int .u64 (u 3), .slice (some ⟨b', o, none⟩) ps.length c] 27)).alloc (.cells prtZ 96)) = ws at *
  refine wp_region_list ?_
  have c5 : ws.cell? ⟨w.heap.size, 5, none⟩ = some (.slice (some ⟨b', o, none⟩) ps.length c) := S0.out.c 5
  have hi0 : (0 : Int) < (ps.length : Int) := by omega
  have d0 : ws.cell? ⟨b', o, none⟩ = some (.int .i64 k') := by have e := hcell 0 (.int .i64 k') rfl; simpa using e
  have d1 : ws.cell? ⟨b', o + 1, none⟩ = some (.int .u64 (u' 0)) := by have e := hcell 1 (.int .u64 (u' 0)) rfl; simpa using e
  have d2 : ws.cell? ⟨b', o + 2, none⟩ = some (.int .u64 (u' 1)) := by have e := hcell 2 (.int .u64 (u' 1)) rfl; simpa using e
  have d3 : ws.cell? ⟨b', o + 3, none⟩ = some (.int .u64 (u' 2)) := by have e := hcell 3 (.int .u64 (u' 2)) rfl; simpa using e
  have d4 : ws.cell? ⟨b', o + 4, none⟩ = some (.int .u64 (u' 3)) := by have e := hcell 4 (.int .u64 (u' 3)) rfl; simpa using e
  have d5 : ws.cell? ⟨b', o + 5, none⟩ = some (.slice p' n' c') := by have e := hcell 5 (.slice p' n' c') rfl; simpa using e
  clear hcell
  refine wpList_plain rfl fun K hK => ?_
  have hK2 := Lib.hid hK
  clear hK
  go_wp2_with fail
  refine hK2.out _ _ ?_
  clear hK2 K
  refine wpList_plain rfl fun K hK => ?_
  have hK2 := Lib.hid hK
  clear hK
  go_wp2_with fail
  refine hK2.out _ _ ?_
  clear hK2 K
  refine wpList_plain rfl fun K hK => ?_
  have hK2 := Lib.hid hK
  clear hK
  go_wp2_with fail
  refine hK2.out _ _ ?_
  clear hK2 K
  refine wpList_plain rfl fun K hK => ?_
  have hK2 := Lib.hid hK
  clear hK
  go_wp2_with fail
  refine hK2.out _ _ ?_
  clear hK2 K
  refine wpList_plain rfl fun K hK => ?_
  have hK2 := Lib.hid hK
  clear hK
  go_wp2_with fail
  refine hK2.out _ _ ?_
  clear hK2 K
  refine wpList_plain rfl fun K hK => ?_
  have hK2 := Lib.hid hK
  clear hK
  go_wp2_with fail
  refine (HIj.out).mono ?_
  rintro _ x1 ⟨rfl, hk⟩
  refine hK2.out _ _ ?_
  clear hK2 K
  have H1 := Lib.hid (S0.out.step hb hk)
  clear hk HIj S0 c5 d0 d1 d2 d3 d4 d5 hv
  refine wpList_plain rfl fun K hK => ?_
  have hK2 := Lib.hid hK
  clear hK
  go_wp2_with fail
  refine hK2.out _ _ ?_
  clear hK2 K
  rw [show (#[.bool false, .int .u64 0, .int .u64 0, .int .u64 0, .int .u64 0, .int .u64 0, .int .u64 0, .int .u64 0, .int .u64 0, .int .u64 0, .int .u64 0, .int .u64 0, .int .u64 0, .int .u64 0, .int .u64 0, .int .u64 0, .int .u64 0] : Array Value) = prtZ from rfl]
  refine wpList_plain rfl fun K hK => wp_store_new 96 (.tmp 5) (.tmp 37) rfl prtZ (prtA q) _ (by simp) rfl rfl (by rw [info70, prtA_size]) (by rw [prtA_size]; rfl) (prtA_one q) (hK _ _ ?_)
  simp only [Act.put]
  refine wpList_nil ?_
  refine at_worldQ (fun y => LW b w.heap.size x1.heap.size #[.int .i64 7, .int .u64 (u 0), .int .u64 (u 1), .int .u64 (u 2), .int .u64 (u 3), .slice (some ⟨b', o, none⟩) ps.length c] Kn q w y) ⟨H1.out.up ((Below.refl _ _).alloc (Nat.le_refl _) _), heap_alloc_last x1 _⟩ fun x2 hx2 => ?_
  have H2 := Lib.hid hx2
  have hAP : w.heap.size + 1 < x1.heap.size := H1.out.lt
  clear hx2 H1
  generalize x1.heap.size = P at *
  have k0 : x2.cell? ⟨w.heap.size, 0, none⟩ = some (.int .i64 7) := H2.out.1.c 0
  have H3 := H2
  generalize x2 = x3 at *
  have p0 : x3.cell? ⟨P, 0, none⟩ = some (.bool q.e) := H3.out.p 0
  have fp0 : x3.frozen? ⟨P, 0, none⟩ = false := H3.out.fp 0
  go_upto_region 15 with fail
  go_cut [] from 32 to 55 (fun wx => LW b w.heap.size P #[.int .i64 7, .int .u64 (u 0), .int .u64 (u 1), .int .u64 (u 2), .int .u64 (u 3), .slice (some ⟨b', o, none⟩) ps.length c] Kn ⟨q.e || true, q.f, q.l⟩ w wx)
  case first =>
    cases hae : q.e with
    | true =>
      rw [hae] at p0
      go_wp2_with fail
      go_meet
      case rel => exact H3.out.setP hb rfl hAP 0 [.bool true] (by rw [putA_e]; simp [hae])
    | false =>
      rw [hae] at p0
      go_wp2_with fail
      go_meet
      case rel => exact H3.out.setP hb rfl hAP 0 [.bool true] (by rw [putA_e]; simp [hae])
  case rest =>
    have H4 := Lib.hid hcut
    clear hcut H3 k0 p0 fp0
    go_upto_region 16 with fail
    refine wp_region_list ?_
    refine wpList_plain rfl fun K hK => wp_load_prt (.tmp 5) rfl P rfl ⟨q.e || true, q.f, q.l⟩ (H4.out.2) (hK _ _ ?_)
    simp only [Act.put, List.setIfInBounds_toArray, List.set_cons_succ, List.set_cons_zero]
    refine wpList_plain rfl fun K hK => wp_store_prt (.tmp 4) (.tmp 55) rfl (w.heap.size + 1) prtZ ⟨q.e || true, q.f, q.l⟩ rfl rfl (H4.out.1.2.2) (rfl) (hK _ _ ?_)
    simp only [Act.put]
    refine wpList_nil ?_
    refine at_worldQ (fun y => Nk b Kn w y ∧ y.heap[w.heap.size + 1]? = some (.cells (prtA ⟨q.e || true, q.f, q.l⟩) 96 (0, 0))) ⟨(H4.out.1.1).set hb (by omega) _, (setCells_heap _ 0 _ _ H4.out.1.2.2).trans (by rw [putA_all prtZ ⟨q.e || true, q.f, q.l⟩ rfl])⟩ fun y hy => ?_
    have hv := load_prt hy.2
    have HN := Lib.hid hy.1
    clear hy
    go_wp2_with fail
    refine bodyPost_ret (v := .agg (prtA ⟨q.e || true, q.f, q.l⟩)) (by simp [results, Tryd.results49, asAddr, hv]) rfl ⟨rfl, ?_⟩
    exact HN.out
end Go.Proofs.YthglciccejholaaDoor.R5
