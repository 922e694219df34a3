/- Texts of package regs, one behind the other. -/
import Derived.Test.YthglciccejholaaDoorProg
import Derived.Test.YthglciccejholaaDoorGr
import Derived.RangeFuncNested
import Derived.RangeFuncBound
import Derived.RangeFuncCalls
import Derived.RangeFuncLeaves
import Derived.RangeFuncBox
import Derived.Shelf.Abstract
import Derived.Shelf.RegionOpen
import Derived.WalkKit
import Derived.OwnWalkIn
import Derived.TacticsInMore
import Derived.LoopNIn
import Derived.LoopIn
import Derived.Below
import Derived.Lib.Hide
import Derived.Lib.Walk
import Derived.Test.YthglciccejholaaDoorV32
import Derived.Test.YthglciccejholaaDoorV31
import Derived.Test.YthglciccejholaaDoorV4
import Derived.Test.YthglciccejholaaDoorV27
section
/- Package dfa. -/
namespace Go.Proofs.YthglciccejholaaDoor
set_option linter.unusedSimpArgs false
set_option linter.unusedVariables false
set_option maxRecDepth 100000
open Go.RowKit Go.Shelf
/- What find finds, plain. -/
open Go.Maps
theorem nmR_bd (lv : Nat → Bool) (sets : List (List Nat)) (l : List Nat) : -1 ≤ nmR lv sets l ∧ nmR lv sets l ≤ sets.length := by
  unfold nmR
  split
  · split
    · rename_i h1 h2
      unfold nmI at h2
      have h3 := idx_lt (of_decide_eq_true h2)
      rw [List.length_map] at h3
      generalize idx (sets.map fun l => kS (mb l)) (kS (mb l)) = q at *
      omega
    · omega
  · omega
theorem nmS_le (lv : Nat → Bool) (sets : List (List Nat)) (l : List Nat) : sets.length ≤ (nmS lv sets l).length := by
  obtain ⟨t, h, -⟩ := nmS_pre lv sets l
  rw [h, List.length_append]; omega
theorem onF_bd (ss : List Nst) (lv : Nat → Bool) (bys : List (Nat → Bool)) (f : Nat → Bool) (sets : List (List Nat)) : ∀ k, ∀ x ∈ (onF ss lv bys f k sets).2, -1 ≤ x ∧ x ≤ (onF ss lv bys f k sets).1.length
  | 0, x, h => by simp [onF] at h
  | k + 1, x, h => by
    rw [onF] at h ⊢
    simp only at h ⊢
    have h2 := nmS_le lv (onF ss lv bys f k sets).1 (leadL ss f (bys[k]?.getD noS))
    rcases List.mem_append.1 h with h | h
    · have := onF_bd ss lv bys f sets k x h; omega
    · simp only [List.mem_singleton] at h
      subst h
      have := nmR_bd lv (onF ss lv bys f k sets).1 (leadL ss f (bys[k]?.getD noS))
      omega
theorem onF_in (ss : List Nst) (lv : Nat → Bool) (bys : List (Nat → Bool)) (f : Nat → Bool) (sets : List (List Nat)) (P : List Nat → Prop) (h0 : ∀ l ∈ sets, P l) (hL : ∀ s (h : s < bys.length), P (leadL ss f bys[s])) : ∀ k, k ≤ bys.length → ∀ l ∈ (onF ss lv bys f k sets).1, P l
  | 0, _, l, h => h0 l h
  | k + 1, hk, l, h => by
    rw [onF] at h
    simp only at h
    unfold nmS at h
    split at h
    · rcases List.mem_append.1 h with h | h
      · exact onF_in ss lv bys f sets P h0 hL k (by omega) l h
      · simp only [List.mem_singleton] at h
        subst h
        rw [List.getElem?_eq_getElem (show k < bys.length by omega)]
        exact hL k (by omega)
    · exact onF_in ss lv bys f sets P h0 hL k (by omega) l h
/-- What is so of the sets and rows that were found. -/
structure FnP (n : Nat) (P : List Nat → Prop) (sets : List (List Nat)) (nums : List (List Int)) : Prop where
  ps : ∀ l ∈ sets, P l
  rl : ∀ r ∈ nums, r.length = n ∧ ∀ x ∈ r, -1 ≤ x ∧ x ≤ sets.length
theorem fnF_fin (ss : List Nst) (lv : Nat → Bool) (bys : List (Nat → Bool)) (P : List Nat → Prop) (hL : ∀ f s (h : s < bys.length), P (leadL ss f bys[s])) : ∀ (q at_ : Nat) (sets : List (List Nat)) (nums : List (List Int)),
    2050 ≤ q + at_ → at_ ≤ 2048 → at_ ≤ sets.length → nums.length = at_ → 0 < sets.length → FnP bys.length P sets nums → (fnF ss lv bys q at_ sets nums).1 = true →
    (fnF ss lv bys q at_ sets nums).2.2.length = (fnF ss lv bys q at_ sets nums).2.1.length ∧ (fnF ss lv bys q at_ sets nums).2.1.length ≤ 2048 ∧ 0 < (fnF ss lv bys q at_ sets nums).2.1.length ∧ FnP bys.length P (fnF ss lv bys q at_ sets nums).2.1 (fnF ss lv bys q at_ sets nums).2.2
  | 0, at_, sets, nums, h1, h2, _, _, _, _, _ => by omega
  | q + 1, at_, sets, nums, h1, h2, h3, h4, h5, hP, hT => by
    rw [fnF] at hT ⊢
    cases hx : sets[at_]? with
    | none =>
      rw [hx] at hT
      simp only at hT ⊢
      have h6 : sets.length ≤ at_ := by
        rcases Nat.lt_or_ge at_ sets.length with h | h
        · rw [List.getElem?_eq_getElem h] at hx; cases hx
        · exact h
      exact ⟨by omega, by omega, h5, hP⟩
    | some l =>
      rw [hx] at hT
      simp only at hT ⊢
      obtain ⟨hlt, -⟩ := List.getElem?_eq_some_iff.1 hx
      by_cases hbig : 2048 < sets.length
      · rw [if_pos hbig] at hT; cases hT
      · rw [if_neg hbig] at hT ⊢
        obtain ⟨t, ht, htl⟩ := onF_pre ss lv bys (mb l) sets bys.length
        have hle : sets.length ≤ (onF ss lv bys (mb l) bys.length sets).1.length := by rw [ht, List.length_append]; omega
        refine fnF_fin ss lv bys P hL q (at_ + 1) _ _ (by omega) (by omega) (by omega) (by simp [h4]) (by omega) ⟨onF_in ss lv bys (mb l) sets P hP.ps (hL (mb l)) bys.length (Nat.le_refl _), fun r hr => ?_⟩ hT
        rcases List.mem_append.1 hr with hr | hr
        · have := hP.rl r hr
          exact ⟨this.1, fun x hx => ⟨(this.2 x hx).1, by have := (this.2 x hx).2; omega⟩⟩
        · simp only [List.mem_singleton] at hr
          subst hr
          exact ⟨onF_len .., onF_bd _ _ _ _ _ _⟩
theorem chk_facts {st : Int} {ss : List Nst} (h : chkN st ss = 0) : ss.length ≤ 4096 ∧ frees ss ≤ 16384 ∧ (0 ≤ st ∧ st < ss.length) ∧ InB ss ∧ (∀ s ∈ ss, s.to < ss.length) ∧ ∀ s ∈ ss, s.rl < 48 := by
  unfold chkN tooM at h
  split at h
  · omega
  · rename_i h1
    split at h
    · rename_i h2
      unfold mayN stOk at h2
      simp only [Bool.and_eq_true, decide_eq_true_eq, List.all_eq_true, Bool.or_eq_true, not_or] at h1 h2
      refine ⟨by omega, by omega, h2.1, fun s x hx => ?_, fun s hs => (h2.2 s hs).1, fun s hs => (h2.2 s hs).2.1⟩
      unfold frOf at hx
      cases e : ss[s]? with
      | none => rw [e] at hx; simp at hx
      | some y =>
        rw [e] at hx
        have := (h2.2 y (List.mem_of_getElem? e)).2.2 x hx
        exact this
    · omega
end Go.Proofs.YthglciccejholaaDoor
end
section
/- Package dfa. -/
namespace Go.Proofs.YthglciccejholaaDoor
set_option linter.unusedSimpArgs false
set_option linter.unusedVariables false
set_option maxRecDepth 100000
open Go.RowKit Go.Shelf
/- Of's builder as automaton reads it. -/
open Go.Maps
theorem auh_of {K : BK} {X : List It} {sets : List (List Nat)} {zs : List (List Int × Nat)} {M : Nat} {l : List Nat} {R R0 : Array Value} {sl sv rv : Value} {mo : Obj} {y : World} {ss : List Nst} {fc : List Value}
    (hh : BH K ss fc) (h : BS K X sets zs M l l R R0 sl sv rv mo y) (hin : ∀ l ∈ sets, ∀ x ∈ l, x < ss.length) (hln : zs.length = sets.length) (hpos : 0 < sets.length) (hle : sets.length ≤ 4096) (hso : ∀ i, i < 256 → K.so i < K.bys.length)
    (hrw : ∀ r ∈ zs.map (fun z => z.1), r.length = K.bys.length ∧ ∀ x ∈ r, -9223372036854775808 ≤ x ∧ x ≤ 9223372036854775807) :
    ∃ g cap, AuH (fun b => b < y.heap.size) y K.bb g cap K.stp rv ss sets (zs.map fun z => z.1) K.so K.bys.length := by
  have hDL : ∀ b, DL K.B (restL K X sets zs M sv rv mo) b → b < y.heap.size := fun b hb => by
    rcases hb with hb | ⟨x, hx, hxb⟩
    · have := h.sep.sz; omega
    · have hx2 : x ∈ (It.box K.bb (.cells R 144) :: .row sl 3 1 l.length (ints l) :: .row sv 139 64 sets.length (setC sets) :: .box M mo :: .row rv 39 1 zs.length (zs.map zV) :: (X ++ zs.map zI ++ K.C)) := by
        unfold restL at hx
        exact List.mem_cons_of_mem _ (List.mem_cons_of_mem _ hx)
      exact (It.lt (h.sep.li x hx2) hxb).2
  obtain ⟨g, cap, hsv, -, -, -, hgl⟩ := h.setW (k := 0) hpos
  refine ⟨g, cap, fun b hb => hb, (h.cell (by omega)).trans h.c0, (hh.steps h).mono hDL (fun _ _ _ => rfl), (h.cell (by omega)).trans (h.c323.trans (by rw [hsv])), hgl, fun k hk => ?_, hin, (h.cell (by omega)).trans h.c325, ?_, by rw [List.length_map, hln], by rw [List.length_map]; omega, by rw [List.length_map]; omega, fun i hi => ⟨(h.cell (by omega)).trans (h.c66 i hi), hso i hi⟩, hh.nb, hrw, hh.tb.mono (h.bel.block 0 hh.B0)⟩
  · obtain ⟨g2, c2, h1, h2, -⟩ := h.setW hk
    rw [hsv] at h1
    injection h1 with h1
    injection h1 with h1
    injection h1 with h1
    subst h1
    exact h2
  · rcases h.rows.2 with ⟨hv, h0⟩ | ⟨g5, cap5, cur, hv, hb, hg, hc, hc2, hc3, hc4⟩
    · omega
    · rw [hv]
      refine ⟨some ⟨g5, 0, none⟩, cap5, by rw [List.length_map], fun _ => ⟨g5, 0, rfl, (Array.getElem?_eq_some_iff.1 hg).1, fun i hi => ?_⟩⟩
      have hi' : i < zs.length := by simpa using hi
      have hmem : zI zs[i] ∈ zs.map zI := List.mem_map_of_mem (List.getElem_mem hi')
      have hbox := h.sep.li (zI zs[i]) (List.mem_cons_of_mem _ (List.mem_cons_of_mem _ (List.mem_cons_of_mem _ (List.mem_cons_of_mem _ (List.mem_cons_of_mem _ (List.mem_append_left _ (List.mem_append_right _ hmem)))))))
      simp only [List.getElem_map]
      refine ⟨some ⟨zs[i].2, 0, none⟩, zs[i].1.length, ?_, ?_⟩
      · refine ⟨_, _, rfl, fun _ => ⟨zs[i].2, 0, rfl, ?_, fun j hj => ?_⟩⟩
        · exact (Array.getElem?_eq_some_iff.1 hbox.2).1
        · rw [Nat.zero_add, cell_of_row y zs[i].2 j _ 3 (0, 0) hbox.2]
          unfold zA
          simp [hj]
      · rw [Nat.zero_add, cell_of_row y g5 _ cur 39 (0, 0) hg]
        have h1 : (zs.map zV)[i]? = some (zV zs[i]) := by simp [hi']
        rw [← hc4, List.getElem?_take_of_lt (by omega), Array.getElem?_toList] at h1
        exact h1
/-- The automaton without any state. -/
def dz : Df := ⟨0, fun _ => 0, [], []⟩
/-- What Of answers. -/
def ofF (st : Int) (ss : List Nst) : Bool × List (List Nat) × List (List Int) := fnF ss (mb (liveL ss)) (byL ss 256) 2050 0 [goF ss (ss.length + 1) 0 [st.toNat]] []
def ofD (st : Int) (ss : List Nst) : Df × Int := if chkN st ss ≠ 0 then (dz, chkN st ss) else if (ofF st ss).1 = true then (autX (soF ss) ss (ofF st ss).2.1 (ofF st ss).2.2, 0) else (dz, 3)
def OfP (B : Nat) (w0 : World) (R : Df × Int) (L : List It) (e : Ending) (w' : World) : Prop := ∃ (ds : Array Value) (p : Option Addr) (c : Nat) (q : Option Addr) (f : Nat) (zs : List (List Int × Nat)), e = .returned (.tuple #[.agg ds, .int .i64 R.2]) ∧ DC R.1 ds p q c f ∧ zs.map (fun z => z.1) = R.1.nx ∧
  Sep B w0 w' (.row (.slice p R.1.nx.length c) 39 1 zs.length (zs.map zV) :: .row (.slice q R.1.rl.length f) 3 1 R.1.rl.length (zi R.1.rl) :: (zs.map zI ++ L))
theorem dz_dc : DC dz zero26 none none 0 0 := ⟨zero26_size, zero26_one, by kernel_rfl, fun i hi => ⟨by
  have h := dA_get (fun _ => 0) hi
  have e : dA (fun _ => 0) = zero26 := by
    apply Array.ext_getElem?
    intro j
    unfold dA
    rw [putA_get _ _ _ _ (by rw [zero26_size, Array.length_toList, cA_size]; omega)]
    split
    · rename_i hj
      rw [Array.length_toList, cA_size] at hj
      rw [Array.getElem?_toList, cA_get _ (by omega)]
      unfold zero26
      rw [Array.append_assoc, Array.getElem?_append_right (by simp; omega), Array.getElem?_append_left (by simp; omega), Array.getElem?_replicate, if_pos (by simp; omega)]
      rfl
    · rfl
  rw [e] at h
  exact h, by show 0 < 256; decide⟩, by kernel_rfl, by kernel_rfl⟩
end Go.Proofs.YthglciccejholaaDoor
end
section
/- Package dfa. -/
namespace Go.Proofs.YthglciccejholaaDoor
set_option linter.unusedSimpArgs false
set_option linter.unusedVariables false
set_option maxRecDepth 100000
open Go.RowKit Go.Shelf
/- Of. -/
open Go.Maps
theorem It.base {B C : Nat} {w : World} {x : It} (h : x.lies B w) (hc : C ≤ B) : x.lies C w := by
  cases x with
  | row v e size n xs => exact row_base h hc
  | box b o => exact ⟨Nat.le_trans hc h.1, h.2⟩
/-- What was made from here on, ahead of what lay. -/
theorem Sep.join {B : Nat} {w0 w w' : World} {L M : List It} (h : Sep B w0 w L) (h2 : Sep w.heap.size w w' M) : Sep B w0 w' (M ++ L) := by
  have h3 := h.up h2.bel
  refine ⟨h3.bel, h3.sz, fun x hx => ?_, List.pairwise_append.2 ⟨h2.ap, h3.ap, fun x hx y hy b hb hb2 => ?_⟩⟩
  · rcases List.mem_append.1 hx with hx | hx
    · exact It.base (h2.li x hx) h.sz
    · exact h3.li x hx
  · have h5 := (It.lt (h2.li x hx) hb).1
    have h6 := (It.lt (h.li y hy) hb2).2
    omega
theorem results_dt {fn : Func} {p u : Tmp} (h : fn.results = #[.cell p 48, .tmp u]) (tmps : Array Value) (w : World) (g : Nat) (cs : Array Value)
    (hp : tmps.getD p undef = .pointer (some ⟨g, 0, none⟩)) (hg : w.heap[g]? = some (.cells cs 48 (0, 0))) (hs : cs.size = 259) :
    (results fn tmps).run Tryd.prog w = .ok (.tuple #[.agg cs, tmps.getD u undef]) w := by
  have hl := run_loadVar_row (P := Tryd.prog) w g 48 48 _ (0, 0) _ hg Tryd.underlying48 rfl (by rw [info26, hs])
  rw [results_cell_tmp h, hp]
  simp [asAddr, hl, Result.andThen]
theorem wpList_build48z {ops : Array Oper} {rest : List Oper} {o : Oper} {a : Act} {w : World} {Q : Exit → Act → World → Prop} (hg : o.guard = none) (ho : o.op = .build 48 #[])
    (h : wpList Tryd.prog ops Q rest (a.put o.dst (.agg zero26)) w) : wpList Tryd.prog ops Q (o :: rest) a w := by
  have e : ((#[] : Array (Nat × Operand)).map fun (i, x) => (i, a.eval x)).toList = [] := by simp
  have e2 : Tryd.prog.built 48 [] = some zero26 := by rw [built48]; unfold Instr.fill; rfl
  refine wpList_build hg 48 _ ho ?_ ?_
  · rw [e, e2, Option.isSome_some]
  · rw [e, e2, Option.getD_some]; exact h
theorem zero26_all : zero26.all (·.oneCell') = true := by kernel_rfl
set_option maxHeartbeats 16000000 in
theorem dof_any {D : Nat → Prop} {w : World} {st : Int} {ss : List Nst} {q : Option Addr} {c : Nat} (hD : ∀ b, D b → b < w.heap.size) (hSV : SV D w ss (.slice q ss.length c)) (hfl : ∀ s ∈ ss, s.fr.length ≤ 9223372036854775806) (hln : ss.length ≤ 9223372036854775806) (hok : ∀ s ∈ ss, okW s.u) (h0 : 0 < w.heap.size) (hT : R5.Tb w) :
    Calls Tryd.prog 25 #[nV st q ss.length c] w (OfP w.heap.size w (ofD st ss) []) := by
  have hz := (zero_of_info info26r).1
  have HSV := Lib.hid (fun (z : World) (hb : Below w.heap.size w z) => hSV.mono (D := D) (E := D) (fun b h => h) (fun b h _ => hb.block b (hD b h)))
  have HDL := Lib.hid (fun (z : World) (hb : Below w.heap.size w z) => (fun b h => Nat.lt_of_lt_of_le (hD b h) hb.size : ∀ b, D b → b < z.heap.size))
  have HTB := Lib.hid (fun (z : World) (hb : Below w.heap.size w z) => (hT.mono (hb.block 0 h0) : R5.Tb z))
  have HCK := Lib.hid (fun (z : World) (hb : Below w.heap.size w z) => check_any (w := z) (st := st) (HDL.out z hb) (HSV.out z hb) hfl hln)
  have HOK := Lib.hid hok
  obtain ⟨RES, hres⟩ : ∃ R, ofD st ss = R := ⟨_, rfl⟩
  rw [hres]
  have HRES := Lib.hid hres
  clear hres
  obtain ⟨e, he⟩ : ∃ e, chkN st ss = e := ⟨_, rfl⟩
  rw [he] at HCK
  have HE := Lib.hid he
  have HFL := Lib.hid (And.intro hfl hln)
  clear he hSV hD hT hok hfl hln
  unfold nV at HCK ⊢
  obtain ⟨b1, hb1⟩ : ∃ b, w.heap.size = b := ⟨_, rfl⟩
  have S0 := Lib.hid ((Sep.start w).allocAt hb1 (.cells #[.int .i64 st, .slice q ss.length c] 33))
  obtain ⟨b2, hb2⟩ : ∃ b, (w.alloc (.cells #[.int .i64 st, .slice q ss.length c] 33)).heap.size = b := ⟨_, rfl⟩
  have S1 := Lib.hid (S0.out.allocAt hb2 (.cells zero26 48))
  have hb3 : b1 + 1 = b2 := by rw [← hb1, ← hb2]; simp
  have HB3 := Lib.hid hb3
  go_enter Tryd.func25, Tryd.ntmps25
  go_upto_region 1 with fail
  refine at_world (fun v => Sep w.heap.size w v [.box b2 (.cells zero26 48), .box b1 (.cells #[.int .i64 st, .slice q ss.length c] 33)]) S1.out fun y1 hy1 => ?_
  try simp only [hb3]
  have S2 := Lib.hid hy1
  clear S0 S1 hy1 hb1 hb2 hb3 hz
  have c0 : y1.cell? ⟨b1, 0, none⟩ = some (.int .i64 st) := S2.out.tl.boxAt 0
  have c1 : y1.cell? ⟨b1, 1, none⟩ = some (.slice q ss.length c) := S2.out.tl.boxAt 1
  go_wp2_with fail
  refine (HCK.out y1 S2.out.bel).mono ?_
  rintro _ w1 ⟨rfl, hb⟩
  have S3 := Lib.hid (S2.out.up hb)
  clear S2 hb HCK c0 c1
  have HB2 := Lib.hid S3.out.at.2
  by_cases hne : e ≠ 0
  · have hneI : (e != 0) = true := by simpa using hne
    go_wp2_with (first | (refine wpList_build48z rfl rfl ?_) | (refine wpList_store_row rfl 48 (.tmp 2) (.tmp 10) rfl b2 zero26 rfl rfl 48 _ HB2.out (by rw [info26, zero26_size]) rfl zero26_all ?_))
    refine bodyPost_ret (results_dt rfl _ _ b2 _ rfl (setRow_heap _ b2 _ _ 48 (0, 0) HB2.out) zero26_size) rfl ?_
    have hr : RES = (dz, e) := by rw [← HRES.out]; unfold ofD; rw [HE.out, if_pos hne]
    subst hr
    have h5 := ((((S3.out.putRow zero26).tl.tl).nilrow 3 1).nilrow 39 1)
    exact ⟨zero26, none, 0, none, 0, [], rfl, dz_dc, rfl, h5⟩
  obtain rfl : e = 0 := by omega
  obtain ⟨hn, hfree, hst, hinb, hto, hrl⟩ := chk_facts HE.out
  obtain ⟨s0, hs0⟩ : ∃ s0 : Nat, st = (s0 : Int) := ⟨st.toNat, by omega⟩
  subst hs0
  have hs0n : s0 < ss.length := by omega
  have HB := Lib.hid S3.out.bel
  have HNBC := Lib.hid (newB_any (w := w1) (st := (s0 : Int)) (HDL.out w1 HB.out) (HSV.out w1 HB.out) hn hfree hinb hto HOK.out)
  have HFX := Lib.hid (And.intro hfree (And.intro hinb hto))
  unfold nV at HNBC
  have HW1 : Hid (0 < w1.heap.size) := Lib.hid (by have := HB.out.size; omega)
  clear hfree hst hinb hto hrl hne
  have c0 : w1.cell? ⟨b1, 0, none⟩ = some (.int .i64 (s0 : Int)) := S3.out.tl.boxAt 0
  have c1 : w1.cell? ⟨b1, 1, none⟩ = some (.slice q ss.length c) := S3.out.tl.boxAt 1
  go_wp2_with fail
  refine HNBC.out.mono ?_
  rintro _ w5 ⟨R, fv, fc, R3, bv, rfl, hNB, hFC, hRS, hS⟩
  clear c0 c1 HNBC
  obtain ⟨bys, hbys⟩ : ∃ b, byL ss 256 = b := ⟨_, rfl⟩
  obtain ⟨so, hso⟩ : ∃ f, soF ss = f := ⟨_, rfl⟩
  have hso1 : ∀ i, i < 256 → R3[66 + i]? = some (.int .u8 (so i : Nat)) := by rw [← hso]; exact hRS.so
  have hso2 : ∀ i, i < 256 → so i < bys.length := by rw [← hso, ← hbys, byL_len]; exact fun i hi => soF_lt ss hi
  rw [hbys] at hS
  obtain ⟨gb, cb, hbs, hbh⟩ := newB_bs hso1 hbys (HDL.out w1 HB.out) (HSV.out w1 HB.out) hn HFX.out.1 HFX.out.2.1 HFX.out.2.2 HW1.out (HTB.out w1 HB.out) hNB hFC hRS hS
  have HSO := Lib.hid (And.intro hso hso2)
  have hB5 : Below w1.heap.size w1 w5 := hS.bel
  obtain ⟨K, hK⟩ : ∃ K, newK w1 ss (s0 : Int) q c fv fc bv gb cb bys so = K := ⟨_, rfl⟩
  have hKbb : K.bb = w1.heap.size + 1 + 1 := by rw [← hK]; rfl
  have hKlv : K.lv = mb (liveL ss) := by rw [← hK]; rfl
  have hKby : K.bys = byL ss 256 := by rw [← hK, hbys]; rfl
  have hKso : K.so = so := by rw [← hK]; rfl
  have hKB : K.B = w1.heap.size := by rw [← hK]; rfl
  have hKw : K.w0 = w1 := by rw [← hK]; rfl
  rw [hK] at hbs hbh
  obtain ⟨F, hF⟩ : ∃ F, ofF (s0 : Int) ss = F := ⟨_, rfl⟩
  have hF2 : fnF ss K.lv K.bys 2050 0 [goF ss (ss.length + 1) 0 [s0]] [] = F := by rw [hKlv, hKby, ← hF]; unfold ofF; rw [Int.toNat_natCast]
  have HC := Lib.hid (find_bs hbh hbs hs0n)
  rw [hF2, hKbb] at HC
  have HBH := Lib.hid hbh
  have HF := Lib.hid (And.intro hF hF2)
  have HKS := Lib.hid (And.intro hKso (And.intro hKB (And.intro hKw (And.intro hKby hKbb))))
  have HBY := Lib.hid hbys
  clear hso hso1 hso2 hS hNB hFC hRS hbs hbh hF hF2 hKlv hKby hKso hKB hKw hK hKbb hbys
  obtain ⟨bb, hbb⟩ : ∃ b, w1.heap.size + 1 + 1 = b := ⟨_, rfl⟩
  rw [hbb] at HC HKS ⊢
  have S5 := Lib.hid (S3.out.up hB5)
  have c0 : w5.cell? ⟨b1, 0, none⟩ = some (.int .i64 (s0 : Int)) := S5.out.tl.boxAt 0
  clear hB5 hbb
  go_wp2_with fail
  refine HC.out.mono ?_
  rintro _ w6 ⟨rfl, zs, l6, R6, R06, sl6, sv6, rv6, mo6, hzs, h6⟩
  have S6 : Hid (Sep w.heap.size w w6 [.box b2 (.cells zero26 48), .box b1 (.cells #[.int .i64 (s0 : Int), .slice q ss.length c] 33)]) := Lib.hid (by
    have hb := h6.bel
    rw [HKS.out.2.1, HKS.out.2.2.1] at hb
    exact S3.out.up hb)
  clear S3 S5 HC c0
  have HB2 := Lib.hid S6.out.at.2
  obtain ⟨ok, sets, nums⟩ := F
  simp only [] at hzs h6
  cases ok with
  | false =>
    clear hzs h6
    go_wp2_with (first | (refine wpList_build48z rfl rfl ?_) | (refine wpList_store_row rfl 48 (.tmp 2) (.tmp 19) rfl b2 zero26 rfl rfl 48 _ HB2.out (by rw [info26, zero26_size]) rfl zero26_all ?_))
    refine bodyPost_ret (results_dt rfl _ _ b2 _ rfl (setRow_heap _ b2 _ _ 48 (0, 0) HB2.out) zero26_size) rfl ?_
    have hr : RES = (dz, 3) := by rw [← HRES.out]; unfold ofD; rw [HE.out, if_neg (by decide), HF.out.1, if_neg (by simp)]
    subst hr
    have h5 := ((((S6.out.putRow zero26).tl.tl).nilrow 3 1).nilrow 39 1)
    exact ⟨zero26, none, 0, none, 0, [], rfl, dz_dc, rfl, h5⟩
  | true =>
    have hP := fnF_fin ss K.lv K.bys (fun l => ∀ x ∈ l, x < ss.length) (fun f s hs => leadL_ok HBH.out (f := f) hs) 2050 0 [goF ss (ss.length + 1) 0 [s0]] [] (by omega) (by omega) (by simp) rfl (by simp) ⟨fun l hl => by
      simp only [List.mem_singleton] at hl
      subst hl
      exact goF_ltI HBH.out.inb (by simp) (by simpa using hs0n), fun r hr => by simp at hr⟩ (by rw [HF.out.2])
    rw [HF.out.2] at hP
    obtain ⟨hP1, hP2, hP3, hP4⟩ := hP
    simp only [] at hP1 hP2 hP3 hP4
    have hzl : zs.length = sets.length := by have := congrArg List.length hzs; rw [List.length_map] at this; omega
    obtain ⟨g, cap, hau⟩ := auh_of HBH.out h6 hP4.ps hzl hP3 (by omega) (by rw [HKS.out.1, HKS.out.2.2.2.1, HBY.out]; exact HSO.out.2) (by
      rw [hzs]
      exact fun r hr => ⟨(hP4.rl r hr).1, fun x hx => by have := (hP4.rl r hr).2 x hx; omega⟩)
    have hA := automaton_any hau (by have := h6.sep.sz; have := HBH.out.B0; omega)
    rw [hzs, HKS.out.1, ← HSO.out.1, HKS.out.2.2.2.2] at hA
    have HA := Lib.hid hA
    clear hA hau hP1 hP2 hP3 hP4 hzl hzs h6
    go_wp2_with fail
    refine HA.out.mono ?_
    rintro _ w7 ⟨ds, p7, c7, q7, f7, zs7, rfl, hdc, hz7, hs7⟩
    have S7 := Lib.hid (S6.out.join hs7)
    have HB7 : Hid (w7.heap[b2]? = some (.cells zero26 48)) := Lib.hid (S7.out.li (.box b2 (.cells zero26 48)) (by simp)).2
    have HDC := Lib.hid hdc
    have HZ7 := Lib.hid hz7
    clear hdc hz7 hs7 HA S6
    go_wp2_with (refine wpList_store_row rfl 48 (.tmp 2) (.tmp 21) rfl b2 ds rfl rfl 48 _ HB7.out (by rw [info26, HDC.out.sz]) (by rw [zero26_size, HDC.out.sz]) ?one ?_)
    case one => first | exact (fun i hi => HDC.out.one _ (Array.getElem_mem hi)) | exact Array.all_eq_true_iff_forall_mem.2 HDC.out.one
    refine bodyPost_ret (results_dt rfl _ _ b2 _ rfl (setRow_heap _ b2 _ _ 48 (0, 0) HB7.out) HDC.out.sz) rfl ?_
    have hr : RES = (autX (soF ss) ss sets nums, 0) := by rw [← HRES.out]; unfold ofD; rw [HE.out, if_neg (by decide), HF.out.1, if_pos rfl]
    subst hr
    have h8 := S7.out.perm (List.perm_append_comm)
    have h9 := (Sep.putRow h8 ds).tl.tl
    rw [List.append_nil] at h9
    exact ⟨ds, p7, c7, q7, f7, zs7, rfl, HDC.out, HZ7.out, by rw [List.append_nil]; exact h9⟩
end Go.Proofs.YthglciccejholaaDoor
end
