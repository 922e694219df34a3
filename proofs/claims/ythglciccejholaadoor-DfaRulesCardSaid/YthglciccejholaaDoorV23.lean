/- Texts of package regs, one behind the other. -/
import Derived.Test.YthglciccejholaaDoorProg
import Derived.Test.YthglciccejholaaDoorFs
import Derived.Test.YthglciccejholaaDoorV19
import Derived.Test.YthglciccejholaaDoorV9
import Derived.Test.YthglciccejholaaDoorFl
import Derived.WalkKit
import Derived.Maps.OwnSet
import Derived.Maps.OwnOps
import Derived.Maps.Own
import Derived.DeepKeys5
import Derived.BigFrame
import Derived.WalkMore
import Derived.ScopeJumps
import Derived.StillTailTactics
import Derived.Stop.BytesEq
import Derived.WalkLawsBesides
import Derived.WalkSpells
import Derived.Outline
import Derived.Lib.Walk
import Derived.Lib.Hide
import Derived.Lib.Slices
import Derived.Lib.Strings
import Derived.RegionTactic
import Derived.LoopTactic
import Derived.Below
import Derived.IntWalk
import Derived.Deep.QuietTactic
import Derived.BigQuiet
import Derived.Deep.MidRow
import Derived.Maps.AppendAt
import Derived.Laws.Rows
import Derived.Laws.Tables
import Derived.Deep.WholeRow
import Derived.Deep.Cut
import Derived.Deep.CutRange
import Derived.Lib.SliceRun
import Derived.Laws.MakeOwn
import Derived.Deep.RegionLaw
import Derived.Deep.RegionLawGrows
import Derived.Deep.RegionHeld3
import Derived.RegionCalls
import Derived.Deep.RegionWith
import Derived.Deep.Light
import Derived.Laws.CopyOwn
import Derived.Laws.ResultCell
import Derived.Great.BuildSlice
section
/- Package dfa. -/
namespace Go.Proofs.YthglciccejholaaDoor
set_option linter.unusedSimpArgs false
set_option linter.unusedVariables false
set_option maxRecDepth 100000
open Go.RowKit
/- The builder in memory. -/
open Go.Maps
/-- What lies below B, and in the listed blocks. -/
def DL (B : Nat) (L : List It) (b : Nat) : Prop := b < B ∨ ∃ x ∈ L, x.blk = some b
theorem fs_of_sep {B : Nat} {w0 y : World} {bb o T : Nat} {R0 R : Array Value} {la l : List Nat} {sl : Value} {L : List It} (h : Sep B w0 y (.box bb (.cells R T) :: .row sl 3 1 l.length (ints l) :: L)) (hr : FRow R0 R o la sl) : FS (DL B L) B y y bb o T R0 la l sl := by
  have hbox := h.li _ (List.mem_cons_self ..)
  have hrow := h.li _ (List.mem_cons_of_mem _ (List.mem_cons_self ..))
  have hap := List.pairwise_cons.1 h.ap
  have hap2 := List.pairwise_cons.1 hap.2
  refine ⟨Below.refl _ _, ⟨R, hbox.2, hr⟩, hrow, hbox.1, fun e => hap.1 _ (List.mem_cons_self ..) bb rfl e, h.sz, fun _ _ => rfl, ?_, ?_, ?_⟩
  · rintro (hd | ⟨x, hx, he⟩)
    · have := hbox.1; omega
    · exact hap.1 x (List.mem_cons_of_mem _ hx) bb rfl he
  · rintro g hg (hd | ⟨x, hx, he⟩)
    · have := (It.lt hrow (x := .row sl 3 1 l.length (ints l)) hg).1; omega
    · exact hap2.1 x hx g hg he
  · rintro b (hd | ⟨x, hx, he⟩)
    · have := h.sz; omega
    · exact (It.lt (h.li x (List.mem_cons_of_mem _ (List.mem_cons_of_mem _ hx))) he).2
theorem sep_of_fs {B : Nat} {w0 y z : World} {bb o T : Nat} {R0 R : Array Value} {la l la' l' : List Nat} {sl sl' : Value} {L : List It} (h : Sep B w0 y (.box bb (.cells R T) :: .row sl 3 1 l.length (ints l) :: L)) (h2 : FS (DL B L) B y z bb o T R0 la' l' sl') :
    ∃ R', FRow R0 R' o la' sl' ∧ Sep B w0 z (.box bb (.cells R' T) :: .row sl' 3 1 l'.length (ints l') :: L) := by
  obtain ⟨R', hR', hr'⟩ := h2.f
  have hap := List.pairwise_cons.1 h.ap
  have hap2 := List.pairwise_cons.1 hap.2
  refine ⟨R', hr', ⟨h.bel.trans h2.bel, h2.sz, fun x hx => ?_, List.pairwise_cons.2 ⟨fun x hx b hb hxb => ?_, List.pairwise_cons.2 ⟨fun x hx b hb hxb => ?_, hap2.2⟩⟩⟩⟩
  · rcases List.mem_cons.1 hx with rfl | hx
    · exact ⟨h2.hF, hR'⟩
    · rcases List.mem_cons.1 hx with rfl | hx
      · exact h2.row
      · have hl := h.li x (List.mem_cons_of_mem _ (List.mem_cons_of_mem _ hx))
        cases x with
        | box b ob => exact ⟨hl.1, (h2.kp b (.inr ⟨_, hx, rfl⟩)).trans hl.2⟩
        | row v e size n xs =>
          refine ⟨hl.1, ?_⟩
          rcases hl.2 with h1 | ⟨g, cap, cur, hv, hb, hg, rest⟩
          · exact .inl h1
          · refine .inr ⟨g, cap, cur, hv, hb, (h2.kp g (.inr ⟨_, hx, ?_⟩)).trans hg, rest⟩
            rw [hv]; rfl
  · have hbb : bb = b := by simpa [It.blk] using hb
    subst hbb
    rcases List.mem_cons.1 hx with rfl | hx
    · exact h2.sF hxb
    · exact hap.1 x (List.mem_cons_of_mem _ hx) bb rfl hxb
  · exact h2.dS b hb (.inr ⟨x, hx, hxb⟩)
/-- What of a builder stays: where it lies, steps, free, live, sorts; the states of each sort; other blocks. -/
structure BK where
  B : Nat
  w0 : World
  bb : Nat
  stp : Value
  fsl : Value
  lv : Nat → Bool
  so : Nat → Nat
  gb : Nat
  cb : Nat
  bys : List (Nat → Bool)
  C : List It
def setC (ls : List (List Nat)) : List Value := ls.flatMap fun l => (sA (mb l)).toList
theorem setC_app (ls : List (List Nat)) (l : List Nat) : setC (ls ++ [l]) = setC ls ++ (sA (mb l)).toList := by simp [setC]
theorem setC_get : ∀ (ls : List (List Nat)) (k : Nat) (h : k < ls.length) (i : Nat), i < 64 → (setC ls)[k * 64 + i]? = some (.int .u64 (W (mb ls[k]) i))
  | l :: ls, 0, h, i, hi => by
    show ((sA (mb l)).toList ++ setC ls)[0 * 64 + i]? = _
    rw [List.getElem?_append_left (by simp [sA_size]; omega)]
    simpa using sA_get (mb l) hi
  | l :: ls, k + 1, h, i, hi => by
    have := setC_get ls k (by simpa using h) i hi
    show ((sA (mb l)).toList ++ setC ls)[(k + 1) * 64 + i]? = _
    rw [List.getElem?_append_right (by simp [sA_size]; omega), Array.length_toList, sA_size, show (k + 1) * 64 + i - 64 = k * 64 + i by omega]
    simpa using this
def zV (z : List Int × Nat) : Value := .slice (some ⟨z.2, 0, none⟩) z.1.length z.1.length
def zA (l : List Int) : Array Value := (l.map fun x => Value.int .i64 x).toArray
def zI (z : List Int × Nat) : It := .box z.2 (.cells (zA z.1) 3)
/-- A map that numbers these sets. -/
def MpI (M : Nat) (mo : Obj) (sets : List (List Nat)) : Prop := ∀ w : World, w.heap[M]? = some mo → ∃ E n, n ≤ sets.length ∧ w.ownsMap Tryd.prog 139 (plainElem (H := Unit) Tryd.prog 3) M n E ∧ MS E (sets.map fun l => kS (mb l))
/-- The builder. -/
structure BS (K : BK) (X : List It) (sets : List (List Nat)) (zs : List (List Int × Nat)) (M : Nat) (la l : List Nat) (R R0 : Array Value) (sl sv rv : Value) (mo : Obj) (y : World) : Prop where
  fr : FRow R0 R 326 la sl
  sz : R0.size = 391
  c0 : R0[0]? = some K.stp
  c1 : R0[1]? = some K.fsl
  c2 : ∀ i, i < 64 → R0[2 + i]? = some (.int .u64 (W K.lv i))
  c66 : ∀ i, i < 256 → R0[66 + i]? = some (.int .u8 (K.so i : Nat))
  c322 : R0[322]? = some (.slice (some ⟨K.gb, 0, none⟩) K.bys.length K.cb)
  c323 : R0[323]? = some sv
  c324 : R0[324]? = some (.map (some M))
  c325 : R0[325]? = some rv
  mp : MpI M mo sets
  by_ : ∀ s (h : s < K.bys.length), SW y K.gb (s * 64) K.bys[s]
  gbC : ∃ x ∈ K.C, x.blk = some K.gb
  sep : Sep K.B K.w0 y (.box K.bb (.cells R 144) :: .row sl 3 1 l.length (ints l) :: .row sv 139 64 sets.length (setC sets) :: .box M mo :: .row rv 39 1 zs.length (zs.map zV) :: (X ++ zs.map zI ++ K.C))
end Go.Proofs.YthglciccejholaaDoor
end
section
/- Package dfa. -/
namespace Go.Proofs.YthglciccejholaaDoor
set_option linter.unusedSimpArgs false
set_option linter.unusedVariables false
set_option maxRecDepth 100000
open Go.RowKit
/- The builder's parts. -/
open Go.Maps
section
variable {K : BK} {X : List It} {sets : List (List Nat)} {zs : List (List Int × Nat)} {M : Nat} {la l : List Nat} {R R0 : Array Value} {sl sv rv : Value} {mo : Obj} {y z : World}
/-- What lies beside the block and the front's list. -/
def restL (K : BK) (X : List It) (sets : List (List Nat)) (zs : List (List Int × Nat)) (M : Nat) (sv rv : Value) (mo : Obj) : List It := .row sv 139 64 sets.length (setC sets) :: .box M mo :: .row rv 39 1 zs.length (zs.map zV) :: (X ++ zs.map zI ++ K.C)
theorem BS.fs (h : BS K X sets zs M la l R R0 sl sv rv mo y) : FS (DL K.B (restL K X sets zs M sv rv mo)) K.B y y K.bb 326 144 R0 la l sl := fs_of_sep h.sep h.fr
theorem gb_in (h : BS K X sets zs M la l R R0 sl sv rv mo y) : DL K.B (restL K X sets zs M sv rv mo) K.gb := by
  obtain ⟨x, hx, he⟩ := h.gbC
  exact .inr ⟨x, by unfold restL; simp [hx], he⟩
theorem BS.back (h : BS K X sets zs M la l R R0 sl sv rv mo y) {la' l' : List Nat} {sl' : Value} (h2 : FS (DL K.B (restL K X sets zs M sv rv mo)) K.B y z K.bb 326 144 R0 la' l' sl') : ∃ R', BS K X sets zs M la' l' R' R0 sl' sv rv mo z := by
  obtain ⟨R', hr, hs⟩ := sep_of_fs (la := la) h.sep h2
  exact ⟨R', hr, h.sz, h.c0, h.c1, h.c2, h.c66, h.c322, h.c323, h.c324, h.c325, h.mp, fun s hs => (h.by_ s hs).same (h2.kp _ (gb_in h)), h.gbC, hs⟩
theorem BS.up (h : BS K X sets zs M la l R R0 sl sv rv mo y) (hb : Below y.heap.size y z) : BS K X sets zs M la l R R0 sl sv rv mo z :=
  ⟨h.fr, h.sz, h.c0, h.c1, h.c2, h.c66, h.c322, h.c323, h.c324, h.c325, h.mp, fun s hs => (h.by_ s hs).up hb, h.gbC, h.sep.up hb⟩
theorem BS.cell (h : BS K X sets zs M la l R R0 sl sv rv mo y) {j : Nat} (hj : j < 326) : y.cell? ⟨K.bb, j, none⟩ = R0[j]? := h.fs.at hj
theorem BS.live (h : BS K X sets zs M la l R R0 sl sv rv mo y) : SW y K.bb 2 K.lv := fun i hi => by rw [h.cell (by omega)]; exact h.c2 i hi
theorem BS.front (h : BS K X sets zs M la l R R0 sl sv rv mo y) : SW y K.bb 326 (mb la) := h.fs.sw
theorem BS.map (h : BS K X sets zs M la l R R0 sl sv rv mo y) : ∃ E n, n ≤ sets.length ∧ y.ownsMap Tryd.prog 139 (plainElem (H := Unit) Tryd.prog 3) M n E ∧ MS E (sets.map fun l => kS (mb l)) :=
  h.mp y (h.sep.li (.box M mo) (by simp)).2
theorem BS.setsR (h : BS K X sets zs M la l R R0 sl sv rv mo y) : y.ownsRow K.B 139 64 sv sets.length (setC sets) := h.sep.li (.row sv 139 64 sets.length (setC sets)) (by simp)
theorem BS.rows (h : BS K X sets zs M la l R R0 sl sv rv mo y) : y.ownsRow K.B 39 1 rv zs.length (zs.map zV) := h.sep.li (.row rv 39 1 zs.length (zs.map zV)) (by simp)
/-- The k-th set's words. -/
theorem BS.setW (h : BS K X sets zs M la l R R0 sl sv rv mo y) {k : Nat} (hk : k < sets.length) : ∃ g cap, sv = .slice (some ⟨g, 0, none⟩) sets.length cap ∧ SW y g (k * 64) (mb sets[k]) ∧ DL K.B (restL K X sets zs M sv rv mo) g ∧ K.B ≤ g ∧ g < y.heap.size := by
  have hs := h.setsR
  rcases hs.2 with ⟨_, h0⟩ | ⟨g, cap, cur, hv, hb, hg, hc, hc2, hc3, hc4⟩
  · omega
  · refine ⟨g, cap, hv, fun i hi => ?_, .inr ⟨.row sv 139 64 sets.length (setC sets), List.mem_cons_self .., by rw [hv]; rfl⟩, hb, (Array.getElem?_eq_some_iff.1 hg).1⟩
    have h1 := setC_get sets k hk i hi
    rw [cell_of_row y g _ cur 139 (0, 0) hg]
    rw [← hc4, List.getElem?_take_of_lt (by omega), Array.getElem?_toList] at h1
    exact h1
theorem BS.bel (h : BS K X sets zs M la l R R0 sl sv rv mo y) : Below K.B K.w0 y := h.sep.bel
theorem BS.lt (h : BS K X sets zs M la l R R0 sl sv rv mo y) : K.bb < y.heap.size := h.fs.lt
end
/-- What is so of the automaton with choice that a builder goes through. -/
structure BH (K : BK) (ss : List Nst) (fc : List Value) : Prop where
  B0 : 0 < K.B
  Bs : K.B ≤ K.w0.heap.size
  n : ss.length ≤ 4096
  sv : SV (fun b => b < K.B) K.w0 ss K.stp
  fin : It.row K.fsl 39 1 ss.length fc ∈ K.C
  fget : ∀ i (h : i < ss.length), ∃ q f, fc[i]? = some (.slice q ss[i].fr.length f) ∧ IV (fun b => b < K.B) K.w0 ss[i].fr (.slice q ss[i].fr.length f)
  inb : InB ss
  fl : ∀ s ∈ ss, s.fr.length ≤ 9223372036854775806
  tb : R5.Tb K.w0
  tw : ∀ f ∈ K.bys, ∀ x, x < 4096 → f x = true → ∃ hx : x < ss.length, 0 ≤ ss[x].to ∧ ss[x].to < ss.length
  nb : K.bys.length ≤ 256
section
variable {K : BK} {X : List It} {sets : List (List Nat)} {zs : List (List Int × Nat)} {M : Nat} {la l : List Nat} {R R0 : Array Value} {sl sv rv : Value} {mo : Obj} {y z : World} {ss : List Nst} {fc : List Value}
theorem BH.steps (hh : BH K ss fc) (h : BS K X sets zs M la l R R0 sl sv rv mo y) : SV (DL K.B (restL K X sets zs M sv rv mo)) y ss K.stp :=
  hh.sv.mono (fun b hb => .inl hb) (fun b hb _ => h.bel.block b hb)
theorem BH.free (hh : BH K ss fc) (h : BS K X sets zs M la l R R0 sl sv rv mo y) : NV (DL K.B (restL K X sets zs M sv rv mo)) y (ss.map (·.fr)) K.fsl := by
  have hrow : y.ownsRow K.B 39 1 K.fsl ss.length fc := h.sep.li (.row K.fsl 39 1 ss.length fc) (by simp [hh.fin])
  have hin : It.row K.fsl 39 1 ss.length fc ∈ restL K X sets zs M sv rv mo := by unfold restL; simp [hh.fin]
  rcases hrow.2 with ⟨hv, h0⟩ | ⟨g, cap, cur, hv, hb, hg, hc, hc2, hc3, hc4⟩
  · have e : ss = [] := List.length_eq_zero_iff.1 h0
    subst e
    rw [hv]
    exact ⟨none, 0, rfl, fun h => absurd rfl h⟩
  · rw [hv]
    refine ⟨some ⟨g, 0, none⟩, cap, by rw [List.length_map], fun _ => ⟨g, 0, rfl, .inr ⟨_, hin, by rw [hv]; rfl⟩, fun i hi => ?_⟩⟩
    have hi' : i < ss.length := by simpa using hi
    obtain ⟨q, f, h1, h2⟩ := hh.fget i hi'
    simp only [List.getElem_map]
    refine ⟨q, f, h2.mono (fun b hb => .inl hb) (fun b hb _ => h.bel.block b hb), ?_⟩
    rw [Nat.zero_add, cell_of_row y g _ cur 39 (0, 0) hg]
    rw [← hc4, List.getElem?_take_of_lt (by omega), Array.getElem?_toList] at h1
    exact h1
/-- lead. -/
theorem lead_bs (hh : BH K ss fc) (h : BS K X sets zs M l l R R0 sl sv rv mo y) {k s : Nat} (hk : k < sets.length) (hs : s < K.bys.length) (hks : sets.length ≤ 4096) :
    Calls Tryd.prog 117 #[.pointer (some ⟨K.bb, 0, none⟩), .int .i64 (k : Nat), .int .i64 (s : Nat)] y fun e y' => e = .returned (.tuple #[]) ∧ ∃ R' sl', BS K X sets zs M (leadL ss (mb sets[k]) K.bys[s]) (leadL ss (mb sets[k]) K.bys[s]) R' R0 sl' sv rv mo y' := by
  obtain ⟨g, cap, hsv, hw, hg, -, -⟩ := h.setW hk
  have h323 := h.c323
  rw [hsv] at h323
  refine (lead_any (fs := mb sets[k]) (fb := K.bys[s]) h.fs h.c0 h.c1 h.c322 h323 hk hs hks (by have := hh.nb; omega) hg (gb_in h) (hh.steps h) hh.n (.inl hh.B0) (hh.tb.mono (h.bel.block 0 hh.B0)) (hh.free h) hh.inb hh.fl (fun x hx hf => ?_) hw (h.by_ s hs)).mono ?_
  · simp only [Bool.and_eq_true] at hf
    exact hh.tw _ (List.getElem_mem hs) x hx hf.2
  · rintro e y' ⟨rfl, sl', h2⟩
    obtain ⟨R', h3⟩ := h.back h2
    exact ⟨rfl, R', sl', h3⟩
end
end Go.Proofs.YthglciccejholaaDoor
end
section
/- Package dfa. -/
namespace Go.Proofs.YthglciccejholaaDoor
set_option linter.unusedSimpArgs false
set_option linter.unusedVariables false
set_option maxRecDepth 100000
open Go.RowKit
/- Laws of operations, one by one. -/
open Go.Maps
theorem wp_mapUpdate_own {o : Oper} {a : Act} {w : World} {K : Act → World → Prop} {Q : Exit → Act → World → Prop} (m x v : Operand) (t : TypeId) (hop : o.op = Op.mapUpdate t m x v)
    (k e : TypeId) (KK : Keyed Tryd.prog k) (ht : Tryd.prog.underlying t = some (.map k e)) (RR : Value → Option (DataW Unit × List MemPlace)) (b n : Nat) (D : DataW Unit)
    (hm : a.eval m = .map (some b)) (hown : w.ownsMap Tryd.prog k RR b n D) (hn : n < maxLen) (key val : Value) (kl : Lit) (hx : a.eval x = key) (hv : a.eval v = val) (hkey : keyOf Tryd.prog k key = some kl)
    (d : DataW Unit) (ps : List MemPlace) (hval : RR val = some (d, ps))
    (hK : ∀ w', w'.ownsMap Tryd.prog k RR b (n + 1) (D.put kl d) → w.grownBy w' (some b) → K (a.put o.dst undef) w') : o.wp Tryd.prog a w K Q := by
  obtain ⟨w', hrun, r1, r2⟩ := hown.update KK ht hn hkey hval
  unfold Oper.wp
  simp [execOp, hop, hm, hx, hv, hrun, Result.andThen]
  exact hK w' r1 r2
theorem wp_append_own {o : Oper} {a : Act} {w : World} {K : Act → World → Prop} {Q : Exit → Act → World → Prop} (s x : Operand) (t : TypeId)
    (ho : o.op = .call { callee := .builtin .append, args := #[s, x], argTypes := #[t, t] })
    (base : Nat) (e : TypeId) (i : TypeInfo) (z : Value) (size bytes : Nat) (ht : Tryd.prog.underlying t = some (.slice e)) (hi : Tryd.prog.info? e = some i) (hz : i.zero = some z)
    (hsize : i.size = size) (hby : i.bytes = bytes) (hzs : z.cells.size = size) (hsz : 0 < size)
    (v : Value) (n : Nat) (xs : List Value) (hs : a.eval s = v) (hown : w.ownsRow base e size v n xs)
    (ad : Addr) (m c : Nat) (news : List Value) (hx : a.eval x = .slice (some ad) m c) (hl : news.length = m * size) (hnews : ∀ j u, news[j]? = some u → w.cell? (ad.add j) = some u) (h1 : ∀ u ∈ news, u.oneCell' = true)
    (h63 : n + m ≤ maxLen) (hbytes : (n + m) * bytes ≤ 140737488355328) (hbase : base ≤ w.heap.size)
    (h : ∀ v' w', w'.ownsRow base e size v' (n + m) (xs ++ news) → w.grownBy w' v.ownBlock → (v'.ownBlock = v.ownBlock ∨ v'.ownBlock = some w.heap.size) → K (a.put o.dst v') w') : o.wp Tryd.prog a w K Q := by
  obtain ⟨v', w', hr, h2, h3, h4, h5⟩ := run_append_own_at (P := Tryd.prog) w base t o.type e i z size bytes ht hi hz hsize hby hzs hsz v n xs hown ad m c news hl hnews h1 h63 hbytes hbase
  unfold Oper.wp execOp
  simp only [ho, resolve, invoke, builtin, Sem.run_bind, Sem.run_pure, Result.andThen_ok, List.map_toArray, List.map_cons, List.map_nil, hs, hx, hr]
  exact h v' w' h2 h3 h5
theorem info139y : (Tryd.prog.info? 139).map (fun i => (i.zero, i.size, i.bytes)) = some (some (.agg (Array.replicate 64 (.int .u64 0))), 64, 512) := by kernel_rfl
theorem info139z : (Tryd.prog.info? 139).map (fun i => (i.zero, i.size, i.bytes)) = some (some (sV noS), 64, 512) := by
  have e2 : sV noS = .agg (Array.replicate 64 (.int .u64 0)) := by unfold sV noS; rw [sA_no]
  rw [info139y, e2]
theorem foldl_putA : ∀ (l : List Value) (base : Array Value) (k : Nat), (l.zipIdx k).foldl (fun cs x => cs.setIfInBounds x.2 x.1) base = putA base k l
  | [], base, k => rfl
  | v :: l, base, k => by
    rw [List.zipIdx_cons, List.foldl_cons, foldl_putA l, putA]
theorem putA_all (l : List Value) (base : Array Value) (h : l.length = base.size) : putA base 0 l = l.toArray := by
  apply Array.ext_getElem?
  intro i
  rw [putA_get l base 0 i (by omega)]
  by_cases hi : i < l.length
  · rw [if_pos (by omega)]; simp
  · rw [if_neg (by omega), Array.getElem?_eq_none (by omega)]; simp; omega
theorem fillS (f : Nat → Bool) (base : Array Value) (hb : base.size = 64) : Instr.fill (fun i => some (i * 64, 64)) base [(0, sV f)] = some (sA f) := by
  unfold sV
  simp [Instr.fill]
  have e : (Value.agg (sA f)).cells = sA f := by simp [Value.cells]
  rw [e, sA_size]
  refine ⟨⟨rfl, by omega⟩, ?_⟩
  have e3 := foldl_putA (sA f).toList base 0
  rw [putA_all _ _ (by simp [sA_size, hb])] at e3
  rw [← sA_size f, show (sA f).size = (sA f).zipIdx.size by simp, ← Array.foldl_toList, Array.toList_zipIdx]
  simpa using e3
theorem wp_buildS {o : Oper} {a : Act} {w : World} {K : Act → World → Prop} {Q : Exit → Act → World → Prop} (x : Operand) (ho : o.op = .buildSlice 140 1 #[(0, x)]) (f : Nat → Bool) (fv : Value) (hfv : sV f = fv) (hx : a.eval x = fv)
    (h : K (a.put o.dst (.slice (some ⟨w.heap.size, 0, none⟩) 1 1)) (w.alloc (.cells (sA f) 139))) : o.wp Tryd.prog a w K Q := by
  obtain ⟨i, hi, hz, hs, hb⟩ := info_parts info139z
  refine wp_buildSlice 140 139 1 #[(0, x)] ho (sA f) i (sV noS) Tryd.underlying140 hi hz (by rw [hs]; decide) (by rw [hs]; decide) ?_ h
  have e : (#[(0, x)].map fun (i, x) => (i, a.eval x)).toList = [(0, sV f)] := by simp [hx, hfv]
  rw [e, hs]
  exact fillS f _ (by simp)
end Go.Proofs.YthglciccejholaaDoor
end
