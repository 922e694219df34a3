/- Texts of package regs, one behind the other. -/
import Derived.Test.YthglciccejholaaDoorProg
import Derived.Test.YthglciccejholaaDoorGe
import Derived.Great.BuildSlice
import Derived.WalkKit
import Derived.Maps.OwnSet
import Derived.Maps.OwnOps
import Derived.Maps.Own
import Derived.DeepKeys5
import Derived.BigFrame
import Derived.WalkMore
import Derived.ScopeJumps
import Derived.StillTailTactics
import Derived.Stop.BytesEq
import Derived.WalkLawsBesides
import Derived.WalkSpells
import Derived.Outline
import Derived.Lib.Walk
import Derived.Lib.Hide
import Derived.Lib.Slices
import Derived.Lib.Strings
import Derived.RegionTactic
import Derived.LoopTactic
import Derived.Below
import Derived.IntWalk
import Derived.Deep.QuietTactic
import Derived.BigQuiet
import Derived.Deep.MidRow
import Derived.Maps.AppendAt
import Derived.Laws.Rows
import Derived.Laws.Tables
import Derived.Deep.WholeRow
import Derived.Deep.Cut
import Derived.Deep.CutRange
import Derived.Lib.SliceRun
import Derived.Laws.MakeOwn
import Derived.Deep.RegionLaw
import Derived.Deep.RegionLawGrows
import Derived.Deep.RegionHeld3
import Derived.RegionCalls
import Derived.Deep.RegionWith
import Derived.Deep.Light
import Derived.Laws.CopyOwn
import Derived.Laws.ResultCell
section
/- Package dfa. -/
namespace Go.Proofs.YthglciccejholaaDoor
set_option linter.unusedSimpArgs false
set_option linter.unusedVariables false
set_option maxRecDepth 100000
open Go.RowKit
/- Lists that are gone back by. -/
open Go.Maps
def intI (l : List Int) : List Value := l.map fun x => .int .i64 x
def rowI (v : Value) (l : List Int) : It := .row v 3 1 l.length (intI l)
def rowsI (vs : List Value) (bk : List (List Int)) : List It := List.zipWith rowI vs bk
theorem rowsI_set (vs : List Value) (bk : List (List Int)) (j : Nat) (v : Value) (l : List Int) : rowsI (vs.set j v) (bk.set j l) = (rowsI vs bk).set j (rowI v l) := by
  unfold rowsI
  apply List.ext_getElem?
  intro i
  rw [List.getElem?_zipWith, List.getElem?_set, List.getElem?_set, List.getElem?_set, List.getElem?_zipWith]
  by_cases e : j = i
  · subst e
    simp only [if_true, List.length_zipWith]
    by_cases h1 : j < vs.length <;> by_cases h2 : j < bk.length <;> simp [h1, h2, Nat.lt_min]
  · simp only [if_neg e]
theorem rowsI_get (vs : List Value) (bk : List (List Int)) {j : Nat} (h : j < (rowsI vs bk).length) (hv : j < vs.length) (hb : j < bk.length) : (rowsI vs bk)[j] = rowI vs[j] bk[j] := List.getElem_zipWith
structure LS (B : Nat) (w0 y : World) (F kb : Nat) (fl : List Nat) (R0 RF : Array Value) (fsl : Value) (vs : List Value) (bk : List (List Int)) (X : List It) : Prop where
  fr : FRow R0 RF 0 fl fsl
  len : vs.length = bk.length
  sep : Sep B w0 y (.box F (.cells RF 142) :: .row fsl 3 1 fl.length (ints fl) :: .box kb (.cells vs.toArray 39) :: (rowsI vs bk ++ X))
section
variable {B : Nat} {w0 y z : World} {F kb : Nat} {fl : List Nat} {R0 RF : Array Value} {fsl : Value} {vs : List Value} {bk : List (List Int)} {X : List It}
theorem LS.up (h : LS B w0 y F kb fl R0 RF fsl vs bk X) (hb : Below y.heap.size y z) : LS B w0 z F kb fl R0 RF fsl vs bk X := ⟨h.fr, h.len, h.sep.up hb⟩
theorem LS.xin (h : LS B w0 y F kb fl R0 RF fsl vs bk X) (o : Obj) : LS B w0 (y.alloc o) F kb fl R0 RF fsl vs bk (.box y.heap.size o :: X) :=
  ⟨h.fr, h.len, (h.sep.alloc o).perm (by
    have : List.Perm (It.box y.heap.size o :: ([.box F (.cells RF 142), .row fsl 3 1 fl.length (ints fl), .box kb (.cells vs.toArray 39)] ++ rowsI vs bk ++ X)) ([.box F (.cells RF 142), .row fsl 3 1 fl.length (ints fl), .box kb (.cells vs.toArray 39)] ++ rowsI vs bk ++ (.box y.heap.size o :: X)) := List.perm_middle.symm
    simpa using this)⟩
theorem LS.xout {x : It} (h : LS B w0 y F kb fl R0 RF fsl vs bk (x :: X)) : LS B w0 y F kb fl R0 RF fsl vs bk X := by
  refine ⟨h.fr, h.len, Sep.tl (x := x) (h.sep.perm ?_)⟩
  have : List.Perm ([.box F (.cells RF 142), .row fsl 3 1 fl.length (ints fl), .box kb (.cells vs.toArray 39)] ++ rowsI vs bk ++ (x :: X)) (x :: ([.box F (.cells RF 142), .row fsl 3 1 fl.length (ints fl), .box kb (.cells vs.toArray 39)] ++ rowsI vs bk ++ X)) := List.perm_middle
  simpa using this
theorem LS.xat {b : Nat} {o : Obj} (h : LS B w0 y F kb fl R0 RF fsl vs bk (.box b o :: X)) : y.heap[b]? = some o := (h.sep.li (.box b o) (by simp)).2
theorem LS.at (h : LS B w0 y F kb fl R0 RF fsl vs bk X) {j : Nat} (hj : j < vs.length) : y.cell? ⟨kb, j, none⟩ = some vs[j] := by
  have := (h.sep.li (.box kb (.cells vs.toArray 39)) (by simp)).2
  rw [cell_of_row y kb j _ 39 (0, 0) this]; simp [hj]
theorem LS.fz (h : LS B w0 y F kb fl R0 RF fsl vs bk X) (j : Nat) : y.frozen? ⟨kb, j, none⟩ = false := frozen_of_row y kb j _ 39 (h.sep.li (.box kb (.cells vs.toArray 39)) (by simp)).2
theorem LS.rowAt (h : LS B w0 y F kb fl R0 RF fsl vs bk X) {j : Nat} (hj : j < bk.length) (hv : j < vs.length) : y.ownsRow B 3 1 vs[j] bk[j].length (intI bk[j]) := by
  have hin : rowI vs[j] bk[j] ∈ rowsI vs bk := by
    unfold rowsI
    rw [List.mem_iff_getElem]
    exact ⟨j, by rw [List.length_zipWith]; omega, by simp⟩
  exact h.sep.li (rowI vs[j] bk[j]) (by simp [hin])
theorem LS.fs (h : LS B w0 y F kb fl R0 RF fsl vs bk X) : FS (DL B (.box kb (.cells vs.toArray 39) :: (rowsI vs bk ++ X))) B y y F 0 142 R0 fl fl fsl := fs_of_sep h.sep h.fr
theorem LS.back {fl' : List Nat} {fsl' : Value} (h : LS B w0 y F kb fl R0 RF fsl vs bk X) (h2 : FS (DL B (.box kb (.cells vs.toArray 39) :: (rowsI vs bk ++ X))) B y z F 0 142 R0 fl' fl' fsl') : ∃ RF', LS B w0 z F kb fl' R0 RF' fsl' vs bk X := by
  obtain ⟨R', hr, hs⟩ := sep_of_fs (la := fl) h.sep h2
  exact ⟨R', hr, h.len, hs⟩
theorem LS.pushF (h : LS B w0 y F kb fl R0 RF fsl vs bk X) {j : Nat} (hj : j < bk.length) (hv : j < vs.length) {w1 : World} (hg : y.grownBy w1 vs[j].ownBlock) : w1.heap[kb]? = some (.cells vs.toArray 39) := by
  have hb := (h.sep.li (.box kb (.cells vs.toArray 39)) (by simp)).2
  refine (hg.block kb (Array.getElem?_eq_some_iff.1 hb).1 (fun e => ?_)).trans hb
  have hin : rowI vs[j] bk[j] ∈ rowsI vs bk := by
    unfold rowsI
    rw [List.mem_iff_getElem]
    exact ⟨j, by rw [List.length_zipWith]; omega, by simp⟩
  exact (List.pairwise_cons.1 (List.pairwise_cons.1 (List.pairwise_cons.1 h.sep.ap).2).2).1 (rowI vs[j] bk[j]) (by simp [hin]) kb rfl e.symm
/-- One more in the j-th list. -/
theorem LS.push (h : LS B w0 y F kb fl R0 RF fsl vs bk X) {j : Nat} (hj : j < bk.length) (hv : j < vs.length) {i : Int} {v' : Value} {w1 : World} (hown : w1.ownsRow B 3 1 v' (bk[j].length + 1) (intI bk[j] ++ [.int .i64 i])) (hg : y.grownBy w1 vs[j].ownBlock) (hat : v'.ownBlock = vs[j].ownBlock ∨ v'.ownBlock = some y.heap.size) :
    LS B w0 (w1.setCell ⟨kb, j, none⟩ v') F kb fl R0 RF fsl (vs.set j v') (bk.set j (bk[j] ++ [i])) X := by
  have hlen : j < (rowsI vs bk).length := by unfold rowsI; rw [List.length_zipWith]; omega
  have hsp : rowsI vs bk = (rowsI vs bk).take j ++ rowI vs[j] bk[j] :: (rowsI vs bk).drop (j + 1) := by
    have e : (rowsI vs bk)[j] = rowI vs[j] bk[j] := rowsI_get vs bk hlen hv hj
    rw [← e, List.getElem_cons_drop, List.take_append_drop]
  have hsp2 : rowsI (vs.set j v') (bk.set j (bk[j] ++ [i])) = (rowsI vs bk).take j ++ rowI v' (bk[j] ++ [i]) :: (rowsI vs bk).drop (j + 1) := by
    rw [rowsI_set, List.set_eq_take_append_cons_drop, if_pos hlen]
  have hs := h.sep
  rw [hsp, List.append_assoc, List.cons_append] at hs
  have hs7 := Sep.repAt (l₁ := .box F (.cells RF 142) :: .row fsl 3 1 fl.length (ints fl) :: .box kb (.cells vs.toArray 39) :: (rowsI vs bk).take j) (x := rowI vs[j] bk[j]) (x' := rowI v' (bk[j] ++ [i])) (w' := w1) hs hg
    (by show w1.ownsRow B 3 1 v' (bk[j] ++ [i]).length (intI (bk[j] ++ [i]))
        rw [List.length_append]; unfold intI; rw [List.map_append]; exact hown)
    (fun b hb => hat.elim (fun e => .inl (e.symm.trans hb)) fun e => .inr (by have h2 : v'.ownBlock = some b := hb; rw [e] at h2; cases h2; exact Nat.le_refl _))
  have hF7 : w1.heap[kb]? = some (.cells vs.toArray 39) := (hs7.li (.box kb (.cells vs.toArray 39)) (by simp)).2
  refine ⟨h.fr, by simp [h.len], ?_⟩
  rw [hsp2, List.append_assoc, List.cons_append]
  have hs8 := Sep.repAt (l₁ := [_, _]) (x := .box kb (.cells vs.toArray 39)) (x' := .box kb (.cells (vs.set j v').toArray 39)) (w' := w1.setCell ⟨kb, j, none⟩ v') hs7 ⟨rfl, rfl, rfl, by simp, fun k hk hne => heap_setCell_other w1 _ k _ (fun e => hne (by rw [e]; rfl))⟩
    ⟨(hs7.li (.box kb (.cells vs.toArray 39)) (by simp)).1, by have := heap_setCell_same w1 kb j _ 39 v' hF7; simpa using this⟩ (fun b hb => .inl hb)
  exact hs8
theorem LS.nv (h : LS B w0 y F kb fl R0 RF fsl vs bk X) (hn : bk.length ≤ 4096) (c : Nat) : NV (DL B (.box kb (.cells vs.toArray 39) :: (rowsI vs bk ++ X))) y bk (.slice (some ⟨kb, 0, none⟩) bk.length c) := by
  refine ⟨_, _, rfl, fun _ => ⟨kb, 0, rfl, .inr ⟨_, List.mem_cons_self .., rfl⟩, fun i hi => ?_⟩⟩
  have hv : i < vs.length := by rw [h.len]; exact hi
  have hr := h.rowAt hi hv
  have hc := h.at hv
  obtain ⟨p, c, e⟩ := rowF_ hr
  rw [e] at hc hr
  refine ⟨p, c, ⟨p, c, rfl, fun hne => ?_⟩, by rw [Nat.zero_add]; exact hc⟩
  rcases hr.2 with ⟨_, h0⟩ | ⟨g, cap, cur, hv2, hb, hg, hc1, hc2, hc3, hc4⟩
  · exact absurd (List.length_eq_zero_iff.1 h0) hne
  · injection hv2 with e1 e2 e3
    subst e1
    have hin : rowI vs[i] bk[i] ∈ rowsI vs bk := by
      unfold rowsI
      rw [List.mem_iff_getElem]
      exact ⟨i, by rw [List.length_zipWith]; omega, by simp⟩
    refine ⟨g, 0, rfl, .inr ⟨rowI vs[i] bk[i], by simp [hin], by rw [e]; rfl⟩, fun k hk => ?_⟩
    rw [Nat.zero_add, cell_of_row y g _ cur 3 (0, 0) hg]
    have h5 : (intI bk[i])[k]? = some (.int .i64 bk[i][k]) := by unfold intI; simp [hk]
    rw [← hc4, List.getElem?_take_of_lt (by omega), Array.getElem?_toList] at h5
    exact h5
end
end Go.Proofs.YthglciccejholaaDoor
end
section
/- Package dfa. -/
namespace Go.Proofs.YthglciccejholaaDoor
set_option linter.unusedSimpArgs false
set_option linter.unusedVariables false
set_option maxRecDepth 100000
open Go.RowKit
/- goOn. -/
open Go.Maps
theorem gl_ok {ss : List Nst} : ∀ (l acc : List Nat), acc.Nodup → (∀ q ∈ acc, q < ss.length) → (∀ x ∈ l, toN ss x < ss.length) → (l.foldl (fun a x => rch a (toN ss x)) acc).Nodup ∧ ∀ q ∈ l.foldl (fun a x => rch a (toN ss x)) acc, q < ss.length
  | [], acc, h1, h2, _ => ⟨h1, h2⟩
  | x :: l, acc, h1, h2, h3 => gl_ok l (rch acc (toN ss x)) (rch_nd h1 _) (fun q hq => by
      rcases mem_rch.1 hq with h | rfl
      · exact h2 q h
      · exact h3 x (List.mem_cons_self ..)) (fun y hy => h3 y (List.mem_cons_of_mem _ hy))
theorem goF_ltI {ss : List Nst} (hi : InB ss) {l : List Nat} (hnd : l.Nodup) (hl : ∀ b ∈ l, b < ss.length) : ∀ b ∈ goF ss (ss.length + 1) 0 l, b < ss.length := fun b hb => by
  have hfr : ∀ s x, x ∈ frOf ss s → x.toNat < ss.length := fun s x hx => by have := hi s x hx; omega
  obtain ⟨a, ha, h⟩ := ((goF_spec ss ss.length hfr (ss.length + 1) 0 l l hnd hl (by omega) (by omega) (fun b hb => ⟨b, hb, .refl b⟩) (fun a ha => ha) (fun j hj => by omega)).2 b).1 hb
  have ha := hl a ha
  clear hb
  induction h with
  | refl => exact ha
  | step _ x hx hc _ => rw [hc]; exact hfr _ x hx
theorem leadL_ok {K : BK} {ss : List Nst} {fc : List Value} (hh : BH K ss fc) {f : Nat → Bool} {s : Nat} (hs : s < K.bys.length) : ∀ x ∈ leadL ss f K.bys[s], x < ss.length := by
  have h := gl_ok (ss := ss) ((List.range 4096).filter fun x => f x && K.bys[s] x) [] .nil (by simp) (fun x hx => by
    rw [List.mem_filter] at hx
    have h1 : x < 4096 := by simpa using hx.1
    have h2 : K.bys[s] x = true := by have := hx.2; simp only [Bool.and_eq_true] at this; exact this.2
    obtain ⟨h3, h4, h5⟩ := hh.tw _ (List.getElem_mem hs) x h1 h2
    unfold toN
    rw [List.getElem?_eq_getElem h3]
    simp only
    omega)
  exact goF_ltI hh.inb h.1 h.2
/-- Where a set leads, sort by sort. -/
def onF (ss : List Nst) (lv : Nat → Bool) (bys : List (Nat → Bool)) (f : Nat → Bool) : Nat → List (List Nat) → List (List Nat) × List Int
  | 0, sets => (sets, [])
  | k + 1, sets => (nmS lv (onF ss lv bys f k sets).1 (leadL ss f (bys[k]?.getD noS)), (onF ss lv bys f k sets).2 ++ [nmR lv (onF ss lv bys f k sets).1 (leadL ss f (bys[k]?.getD noS))])
theorem nmS_pre (lv : Nat → Bool) (sets : List (List Nat)) (l : List Nat) : ∃ t, nmS lv sets l = sets ++ t ∧ t.length ≤ 1 := by
  unfold nmS; split
  · exact ⟨[l], rfl, by simp⟩
  · exact ⟨[], by simp, by simp⟩
theorem onF_pre (ss : List Nst) (lv : Nat → Bool) (bys : List (Nat → Bool)) (f : Nat → Bool) (sets : List (List Nat)) : ∀ k, ∃ t, (onF ss lv bys f k sets).1 = sets ++ t ∧ t.length ≤ k
  | 0 => ⟨[], by simp [onF], by simp⟩
  | k + 1 => by
    obtain ⟨t, h1, h2⟩ := onF_pre ss lv bys f sets k
    obtain ⟨u, h3, h4⟩ := nmS_pre lv (onF ss lv bys f k sets).1 (leadL ss f (bys[k]?.getD noS))
    refine ⟨t ++ u, ?_, by rw [List.length_append]; omega⟩
    rw [onF, h3, h1, List.append_assoc]
theorem onF_len (ss : List Nst) (lv : Nat → Bool) (bys : List (Nat → Bool)) (f : Nat → Bool) (sets : List (List Nat)) : ∀ k, (onF ss lv bys f k sets).2.length = k
  | 0 => rfl
  | k + 1 => by rw [onF, List.length_append, onF_len]; rfl
theorem zA_put (l : List Int) (n k : Nat) (x : Int) (h : l.length = k) (hk : k < n) : (zA (l ++ List.replicate (n - k) 0)).setIfInBounds k (.int .i64 x) = zA ((l ++ [x]) ++ List.replicate (n - (k + 1)) 0) := by
  subst h
  obtain ⟨m, hm⟩ : ∃ m, n - l.length = m + 1 := ⟨n - l.length - 1, by omega⟩
  rw [hm, show n - (l.length + 1) = m by omega, List.replicate_succ]
  unfold zA
  rw [List.setIfInBounds_toArray]
  congr 1
  rw [List.map_append, List.map_cons, List.set_append_right _ _ (by simp)]
  simp
theorem make_i (n : Nat) (hn : n ≤ 4096) (w : World) : (Instr.makeSlice 39 (.int .i64 (n : Nat)) (.int .i64 (n : Nat))).run Tryd.prog w = .ok (.slice (some ⟨w.heap.size, 0, none⟩) n n) (w.alloc (.cells (zA (List.replicate n 0)) 3)) := by
  obtain ⟨i0, hi, hz0, hz1, hz2⟩ := info_parts info3
  have h := run_makeSlice (P := Tryd.prog) w 39 3 i0 (.int .i64 0) Tryd.underlying39 hi hz0 .i64 .i64 (n : Int) (n : Int) (by omega) (by omega) (by rw [hz1]; omega) (by rw [hz2]; omega) (by omega)
  rw [h, hz1]
  have e : madeCells (Value.int .i64 0).cells ((n : Int).toNat * 1) = zA (List.replicate n 0) := by
    rw [Int.toNat_natCast, Nat.mul_one]
    apply Array.ext_getElem?
    intro i
    by_cases hi : i < n
    · simp [madeCells, zA, hi, Nat.mod_one, Value.cells]
    · rw [Array.getElem?_eq_none (by simp [madeCells]; omega), Array.getElem?_eq_none (by simp [zA]; omega)]
  rw [e, Int.toNat_natCast]
theorem info39g : (Tryd.prog.info? 39).map (fun i => (i.zero, i.size, i.bytes)) = some (some (.slice none 0 0), 1, 24) := by kernel_rfl
section
variable {K : BK} {X : List It} {sets : List (List Nat)} {zs : List (List Int × Nat)} {M : Nat} {la l : List Nat} {R R0 : Array Value} {sl sv rv : Value} {mo : Obj} {y z : World} {ss : List Nst} {fc : List Value}
set_option maxHeartbeats 16000000 in
theorem goOn_bs (hh : BH K ss fc) (h : BS K X sets zs M l l R R0 sl sv rv mo y) {at_ : Nat} (hk : at_ < sets.length) (hks : sets.length ≤ 2048) (hzs : zs.length ≤ 2048) :
    Calls Tryd.prog 98 #[.pointer (some ⟨K.bb, 0, none⟩), .int .i64 (at_ : Nat)] y fun e y' => e = .returned (.tuple #[]) ∧ ∃ l' R' R0' sl' sv' rv' mo' rb, BS K X (onF ss K.lv K.bys (mb sets[at_]) K.bys.length sets).1 (zs ++ [((onF ss K.lv K.bys (mb sets[at_]) K.bys.length sets).2, rb)]) M l' l' R' R0' sl' sv' rv' mo' y' := by
  obtain ⟨i0, hi, hz0, hz1, hz2⟩ := info_parts info39g
  have hnb := hh.nb
  obtain ⟨n, hn⟩ : ∃ n, K.bys.length = n := ⟨_, rfl⟩
  have c322 : y.cell? ⟨K.bb, 322, none⟩ = some (.slice (some ⟨K.gb, 0, none⟩) K.bys.length K.cb) := (h.cell (by omega)).trans h.c322
  have hmk := make_i n (by omega) y
  have H0 := Lib.hid (h.xin (.cells (zA (List.replicate n 0)) 3))
  have HH := Lib.hid hh
  have HN := Lib.hid hn
  obtain ⟨f, hf⟩ : ∃ f, mb sets[at_] = f := ⟨_, rfl⟩
  have HF := Lib.hid hf
  rw [hf]
  have hkI : ¬ (at_ : Int) < 0 := by omega
  rw [hn] at c322 hnb ⊢
  clear h hh hn hf
  go_enter Tryd.func98, Tryd.ntmps98
  go_wp2_with fail
  obtain ⟨rb, hrb⟩ : ∃ rb, y.heap.size = rb := ⟨_, rfl⟩
  rw [hrb] at H0
  simp only [hrb]
  clear hrb c322 hmk
  go_loopw [14] (fun i wr => ∃ (k : Nat), i = .int .i64 (k : Nat) ∧ k ≤ n ∧ Hid (∃ l R R0 sl sv mo, BS K (.box rb (.cells (zA ((onF ss K.lv K.bys f k sets).2 ++ List.replicate (n - k) 0)) 3) :: X) (onF ss K.lv K.bys f k sets).1 zs M l l R R0 sl sv rv mo wr)) (fun i _ => n - (intOf i).toNat)
  case atStart => exact ⟨0, rfl, by omega, Lib.hid ⟨_, _, _, _, _, _, H0.out⟩⟩
  case round =>
    clear H0
    obtain ⟨k, rfl, hkn, HB⟩ := hrel
    obtain ⟨wo, rfl⟩ : ∃ wo : World, wo = wr := ⟨_, rfl⟩
    obtain ⟨p, hp⟩ : ∃ p, onF ss K.lv K.bys f k sets = p := ⟨_, rfl⟩
    have hpl : p.2.length = k := by rw [← hp]; exact onF_len ss K.lv K.bys f sets k
    obtain ⟨t, ht, htl⟩ := onF_pre ss K.lv K.bys f sets k
    rw [hp] at ht HB
    by_cases hlt : k < n
    · have hklt : k < K.bys.length := by rw [HN.out]; exact hlt
      have hq : onF ss K.lv K.bys f (k + 1) sets = (nmS K.lv p.1 (leadL ss f K.bys[k]), p.2 ++ [nmR K.lv p.1 (leadL ss f K.bys[k])]) := by
        rw [onF, hp, List.getElem?_eq_getElem hklt]; rfl
      have HQ := Lib.hid hq
      have hat : at_ < p.1.length := by rw [ht, List.length_append]; omega
      have hmb : mb p.1[at_] = f := by rw [← HF.out]; congr 1; simp only [ht]; rw [List.getElem_append_left hk]
      have hLL : ∀ x ∈ leadL ss f K.bys[k], x < ss.length := leadL_ok HH.out hklt
      have HLL := Lib.hid hLL
      have hpl1 : p.1.length ≤ 2048 + 256 := by rw [ht, List.length_append]; omega
      have HC : Hid (Calls Tryd.prog 117 #[.pointer (some ⟨K.bb, 0, none⟩), .int .i64 (at_ : Nat), .int .i64 (k : Nat)] wo fun e y' => e = .returned (.tuple #[]) ∧ ∃ R' R0' sl' sv' mo', BS K (.box rb (.cells (zA (p.2 ++ List.replicate (n - k) 0)) 3) :: X) p.1 zs M (leadL ss f K.bys[k]) (leadL ss f K.bys[k]) R' R0' sl' sv' rv mo' y') := Lib.hid (by
        obtain ⟨l, R, R0, sl, sv, mo, h1⟩ := HB.out
        refine (lead_bs HH.out h1 hat hklt (by omega)).mono ?_
        rintro e y' ⟨rfl, R', sl', h2⟩
        rw [hmb] at h2
        exact ⟨rfl, _, _, _, _, _, h2⟩)
      obtain ⟨LL, hll⟩ : ∃ LL, leadL ss f K.bys[k] = LL := ⟨_, rfl⟩
      rw [hll] at HC HQ HLL
      have hltI : (k : Int) < (n : Int) := by omega
      clear hq hLL hll HB ht hmb hp
      go_wp2_with fail
      refine HC.out.mono ?_
      rintro _ y2 ⟨rfl, R2, R02, sl2, sv2, mo2, h2⟩
      have HC2 := Lib.hid (number_bs h2 (by omega) (fun x hx => by have := HLL.out x hx; have := HH.out.n; omega))
      clear h2 HC
      obtain ⟨nr, hnr⟩ : ∃ nr, nmR K.lv p.1 LL = nr := ⟨_, rfl⟩
      obtain ⟨ns, hns⟩ : ∃ ns, nmS K.lv p.1 LL = ns := ⟨_, rfl⟩
      rw [hnr, hns] at HC2 HQ
      clear hnr hns
      go_wp2_with fail
      refine HC2.out.mono ?_
      rintro _ y3 ⟨rfl, R3, R03, sv3, mo3, h3⟩
      have hb3 := h3.xat
      have hfz : y3.frozen? ⟨rb, k, none⟩ = false := frozen_of_row y3 rb k _ 3 hb3
      have hce : y3.cell? ⟨rb, k, none⟩ = some (.int .i64 0) := by
        rw [cell_of_row y3 rb k _ 3 (0, 0) hb3]
        unfold zA
        simp only [List.getElem?_toArray, List.getElem?_map]
        rw [List.getElem?_append_right (by omega), List.getElem?_replicate, if_pos (by omega)]
        rfl
      have h4 := h3.xput (z := y3.setCell ⟨rb, k, none⟩ (.int .i64 nr)) ⟨rfl, rfl, rfl, by simp, fun k hk hne => heap_setCell_other y3 _ k _ (fun e => hne (by rw [e]))⟩ (heap_setCell_same y3 rb k _ 3 _ hb3)
      rw [zA_put p.2 n k nr hpl hlt] at h4
      have H4 := Lib.hid h4
      have hkI2 : ¬ (k : Int) < 0 := by omega
      clear h3 h4 hb3 HC2
      go_wp2_with fail
      go_roundw
      case rel => exact ⟨k + 1, by go_num, by omega, Lib.hid (by rw [HQ.out]; exact ⟨_, _, _, _, _, _, H4.out⟩)⟩
      case measure => simp [intOf]; omega
    · obtain rfl : k = n := by omega
      have hltI : ¬ (k : Int) < (k : Int) := by omega
      rw [Nat.sub_self] at HB
      have HB : Hid (∃ l R R0 sl sv mo, BS K (.box rb (.cells (zA p.2) 3) :: X) p.1 zs M l l R R0 sl sv rv mo wo) := Lib.hid (by have := HB.out; simpa using this)
      have HP := Lib.hid hp
      clear hp ht
      obtain ⟨l, R, R0, sl, sv, mo, h1⟩ := HB.out
      obtain ⟨pr, cr, rfl⟩ := rowF_ h1.rows
      have c325 : wo.cell? ⟨K.bb, 325, none⟩ = some (.slice pr zs.length cr) := (h1.cell (by omega)).trans h1.c325
      have H1 := Lib.hid h1
      have HA := Lib.hid (h1.up ((Below.refl _ _).alloc (Nat.le_refl _) (.cells #[.slice (some ⟨rb, 0, none⟩) k k] 39)))
      have HYA := Lib.hid (show (wo.alloc (.cells #[.slice (some ⟨rb, 0, none⟩) k k] 39)).heap.size = wo.heap.size + 1 by simp)
      have hzv : zV (p.2, rb) = .slice (some ⟨rb, 0, none⟩) k k := by unfold zV; simp only [hpl]
      clear HB h1
      go_wp2_with (at_builtin; refine wpList_append_own_at _ rfl (.tmp 31) (.tmp 33) 46 rfl K.B 39 i0 (.slice none 0 0) 1 24 Tryd.underlying46 hi hz0 hz1 hz2 rfl (by decide) (.slice pr zs.length cr) zs.length (zs.map zV) rfl ?c0 ⟨wo.heap.size, 0, none⟩ 1 1 [.slice (some ⟨rb, 0, none⟩) k k] rfl rfl ?c1 ?c2 ?c3 ?c4 ?c5 ?_)
      case c0 => exact HA.out.rows
      case c2 => simp [Value.oneCell']
      case c3 => unfold maxLen; omega
      case c4 => omega
      case c5 => have := HYA.out; have := HA.out.sep.sz; omega
      intro v' w7 hown7 hgrow7 _ hat7
      obtain ⟨p7, c7, rfl⟩ := rowF_ hown7
      have hown8 : w7.ownsRow K.B 39 1 (Value.slice p7 (zs.length + 1) c7) (zs ++ [(p.2, rb)]).length ((zs ++ [(p.2, rb)]).map zV) := by
        rw [List.map_append, List.length_append]
        show w7.ownsRow K.B 39 1 (Value.slice p7 (zs.length + 1) c7) (zs.length + 1) (zs.map zV ++ [zV (p.2, rb)])
        rw [hzv]; exact hown7
      rw [← HYA.out] at hat7
      have h8 := HA.out.xrow hown8 hgrow7 hat7
      have hR7 : w7.heap[K.bb]? = some (.cells R 144) := by
        have hb := (HA.out.sep.li _ (List.mem_cons_self ..)).2
        have hlt7 := (Array.getElem?_eq_some_iff.1 hb).1
        exact (hgrow7.block K.bb hlt7 (fun e => (List.pairwise_cons.1 HA.out.sep.ap).1 (.row (.slice pr zs.length cr) 39 1 zs.length (zs.map zV)) (by simp) K.bb rfl e.symm)).trans hb
      have hfz : w7.frozen? ⟨K.bb, 325, none⟩ = false := frozen_of_row w7 K.bb 325 _ 144 hR7
      have hc7 : w7.cell? ⟨K.bb, 325, none⟩ = some (.slice pr zs.length cr) := by rw [cell_of_row w7 K.bb 325 _ 144 (0, 0) hR7, H1.out.fr.out 325 (by omega)]; exact H1.out.c325
      have H8 := Lib.hid h8
      clear h8 hown8 hown7 hgrow7 hat7 hR7 HA c325 H1
      go_wp2_with fail
      go_end0
      rw [HP.out]
      exact ⟨rfl, _, _, _, _, _, _, _, _, H8.out⟩
end
end Go.Proofs.YthglciccejholaaDoor
end
