/- Texts of package regs, one behind the other. -/
import Derived.Test.YthglciccejholaaDoorProg
import Derived.WalkKit
import Derived.WalkLawsBesides
import Derived.WalkSpells
import Derived.Outline
import Derived.Lib.Walk
import Derived.Lib.Hide
import Derived.Lib.Slices
import Derived.Lib.Strings
import Derived.RegionTactic
import Derived.LoopTactic
import Derived.Below
import Derived.IntWalk
import Derived.Deep.QuietTactic
import Derived.BigQuiet
import Derived.Deep.MidRow
import Derived.Maps.AppendAt
import Derived.Laws.Rows
import Derived.Laws.Tables
import Derived.Deep.WholeRow
import Derived.Deep.Cut
import Derived.Deep.CutRange
import Derived.Test.YthglciccejholaaDoorZ1
section
/- Package nfa. -/
namespace Go.Proofs.YthglciccejholaaDoor
set_option linter.unusedSimpArgs false
set_option linter.unusedVariables false
set_option maxRecDepth 100000
open Go.RowKit
/- What lies in the blocks that a call has made. -/
theorem at_world {P : Program} {c : Code} {Q : Exit → Act → World → Prop} {a : Act} {w : World} (R : World → Prop) (hR : R w) (h : ∀ y, R y → c.wp P Q a y) : c.wp P Q a w := h w hR
theorem at_worldQ {Q : Exit → Act → World → Prop} {e : Exit} {a : Act} {w : World} (R : World → Prop) (hR : R w) (h : ∀ y, R y → Q e a y) : Q e a w := h w hR
theorem below_grown {B : Nat} {w0 w w' : World} {row : Option Nat} (h : Below B w0 w) (hg : w.grownBy w' row) (hr : ∀ g, row = some g → B ≤ g) (hB : B ≤ w.heap.size) : Below B w0 w' :=
  ⟨hg.os.trans h.os, hg.tape.trans h.tape, hg.output.trans h.output, Nat.le_trans h.size hg.size, fun k hk => (hg.block k (by omega) (fun e => by have := hr k e.symm; omega)).trans (h.block k hk)⟩
theorem below_row {B b : Nat} {w w' : World} (h : Below B w w') (hb : B ≤ b) (cs : Array Value) : Below B w (w'.setRow b cs) :=
  ⟨h.os, h.tape, h.output, by simpa using h.size, fun k hk => (setRow_other w' b k cs (by omega)).trans (h.block k hk)⟩
theorem below_drewN {B : Nat} {w0 w : World} (h : Below B w0 w) (n : Nat) : Below B w0 (w.drewN n) := ⟨h.os, h.tape, h.output, h.size, h.block⟩
def Sb (w0 w : World) (L : List (Nat × Obj)) : Prop := Below w0.heap.size w0 w ∧ ∀ c ∈ L, w0.heap.size ≤ c.1 ∧ w.heap[c.1]? = some c.2
variable {w0 w w' : World} {L M : List (Nat × Obj)}
theorem Sb.start (w : World) : Sb w w [] := ⟨Below.refl _ _, by simp⟩
theorem Sb.up (h : Sb w0 w L) (hb : Below w.heap.size w w') : Sb w0 w' L :=
  ⟨h.1.trans (hb.mono h.1.size), fun c hc => ⟨(h.2 c hc).1, (hb.block _ (Array.getElem?_eq_some_iff.1 (h.2 c hc).2).1).trans (h.2 c hc).2⟩⟩
theorem Sb.drewN (h : Sb w0 w L) (n : Nat) : Sb w0 (w.drewN n) L := ⟨below_drewN h.1 n, h.2⟩
theorem Sb.drew (h : Sb w0 w L) : Sb w0 w.drew L := h.drewN 1
theorem Sb.alloc (h : Sb w0 w L) (o : Obj) : Sb w0 (w.alloc o) ((w.heap.size, o) :: L) := by
  have h1 : Sb w0 (w.alloc o) L := h.up ((Below.refl _ _).alloc (Nat.le_refl _) _)
  refine ⟨h1.1, fun c hc => ?_⟩
  rcases List.mem_cons.1 hc with rfl | hc
  · exact ⟨h.1.size, heap_alloc_last w o⟩
  · exact h1.2 c hc
theorem Sb.sub (h : Sb w0 w L) (hs : ∀ c ∈ M, c ∈ L) : Sb w0 w M := ⟨h.1, fun c hc => h.2 c (hs c hc)⟩
theorem Sb.set {b i : Nat} {cs : Array Value} {t : TypeId} (h : Sb w0 w ((b, .cells cs t (0, 0)) :: L)) (v : Value) (hne : ∀ c ∈ L, c.1 ≠ b) :
    Sb w0 (w.setCell ⟨b, i, none⟩ v) ((b, .cells (cs.setIfInBounds i v) t (0, 0)) :: L) := by
  have hb := h.2 _ (List.mem_cons_self ..)
  refine ⟨h.1.setCell (p := ⟨b, i, none⟩) hb.1 _, fun c hc => ?_⟩
  rcases List.mem_cons.1 hc with rfl | hc
  · exact ⟨hb.1, heap_setCell_same w b i cs t v hb.2⟩
  · exact ⟨(h.2 c (List.mem_cons_of_mem _ hc)).1, (heap_setCell_other w _ c.1 v (hne c hc)).trans (h.2 c (List.mem_cons_of_mem _ hc)).2⟩
theorem Sb.setRow {b : Nat} {cs cs' : Array Value} {t : TypeId} (h : Sb w0 w ((b, .cells cs t (0, 0)) :: L)) (hne : ∀ c ∈ L, c.1 ≠ b) :
    Sb w0 (w.setRow b cs') ((b, .cells cs' t (0, 0)) :: L) := by
  have hb := h.2 _ (List.mem_cons_self ..)
  refine ⟨⟨h.1.os, h.1.tape, h.1.output, by simpa using h.1.size, fun k hk => (setRow_other w b k cs' (by omega)).trans (h.1.block k hk)⟩, fun c hc => ?_⟩
  rcases List.mem_cons.1 hc with rfl | hc
  · exact ⟨hb.1, setRow_heap w b cs cs' t (0, 0) hb.2⟩
  · exact ⟨(h.2 c (List.mem_cons_of_mem _ hc)).1, (setRow_other w b c.1 cs' (hne c hc)).trans (h.2 c (List.mem_cons_of_mem _ hc)).2⟩
theorem Sb.heap {b : Nat} {o : Obj} (h : Sb w0 w ((b, o) :: L)) : w.heap[b]? = some o := (h.2 _ (List.mem_cons_self ..)).2
theorem Sb.lt {b : Nat} {o : Obj} (h : Sb w0 w ((b, o) :: L)) : b < w.heap.size := (Array.getElem?_eq_some_iff.1 h.heap).1
theorem Sb.tl {c : Nat × Obj} (h : Sb w0 w (c :: L)) : Sb w0 w L := h.sub fun x hx => List.mem_cons_of_mem _ hx
theorem Sb.cell {b : Nat} {cs : Array Value} {t : TypeId} {fr : Nat × Nat} (h : Sb w0 w ((b, .cells cs t fr) :: L)) (j : Nat) : w.cell? ⟨b, j, none⟩ = cs[j]? := cell_of_row w b j cs t fr h.heap
theorem Sb.free {b : Nat} {cs : Array Value} {t : TypeId} (h : Sb w0 w ((b, .cells cs t (0, 0)) :: L)) (j : Nat) : w.frozen? ⟨b, j, none⟩ = false := frozen_of_row w b j cs t h.heap
/-- A row's cells with others put in from o on. -/
def putA : Array Value → Nat → List Value → Array Value
  | cs, _, [] => cs
  | cs, o, v :: r => putA (cs.setIfInBounds o v) (o + 1) r
theorem putA_get : ∀ (vs : List Value) (cs : Array Value) (o i : Nat), o + vs.length ≤ cs.size → (putA cs o vs)[i]? = if o ≤ i ∧ i < o + vs.length then vs[i - o]? else cs[i]?
  | [], cs, o, i, _ => by
    rw [putA, if_neg (by rintro ⟨h1, h2⟩; simp at h2; omega)]
  | v :: r, cs, o, i, h => by
    simp only [List.length_cons] at h
    rw [putA, putA_get r _ (o + 1) i (by simp; omega), Array.getElem?_setIfInBounds]
    simp only [List.length_cons]
    by_cases h1 : o = i
    · subst h1
      rw [if_neg (by omega), if_pos rfl, if_pos (by omega), if_pos (by omega)]
      simp
    · by_cases h2 : o + 1 ≤ i ∧ i < o + 1 + r.length
      · rw [if_pos h2, if_pos (by omega), show i - o = (i - (o + 1)) + 1 by omega]; simp
      · rw [if_neg h2, if_neg h1, if_neg (by omega)]
theorem putA_size : ∀ (vs : List Value) (cs : Array Value) (o : Nat), (putA cs o vs).size = cs.size
  | [], _, _ => rfl
  | v :: r, cs, o => by rw [putA, putA_size]; simp
theorem setCells_heap {b : Nat} {t : TypeId} : ∀ (vs : List Value) (o : Nat) (w : World) (cs : Array Value), w.heap[b]? = some (.cells cs t (0, 0)) → (w.setCells b o vs).heap[b]? = some (.cells (putA cs o vs) t (0, 0))
  | [], _, _, _, h => h
  | v :: r, o, w, cs, h => setCells_heap r (o + 1) _ _ (heap_setCell_same w b o cs t v h)
theorem setCells_other {b z : Nat} (hz : z ≠ b) : ∀ (vs : List Value) (o : Nat) (w : World), (w.setCells b o vs).heap[z]? = w.heap[z]?
  | [], _, _ => rfl
  | v :: r, o, w => by
    rw [World.setCells, setCells_other hz r, heap_setCell_other _ _ _ _ (by simpa using hz)]
theorem setCells_below {B b : Nat} {w0 : World} (hb : B ≤ b) : ∀ (vs : List Value) (o : Nat) (w : World), Below B w0 w → Below B w0 (w.setCells b o vs)
  | [], _, _, h => h
  | v :: r, o, w, h => setCells_below hb r (o + 1) _ (h.setCell (p := ⟨b, o, none⟩) hb v)
theorem setCells_size {b : Nat} : ∀ (vs : List Value) (o : Nat) (w : World), (w.setCells b o vs).heap.size = w.heap.size
  | [], _, _ => rfl
  | v :: r, o, w => by rw [World.setCells, setCells_size r]; simp
end Go.Proofs.YthglciccejholaaDoor
end
section
/- Package nfa. -/
namespace Go.Proofs.YthglciccejholaaDoor
set_option linter.unusedSimpArgs false
set_option linter.unusedVariables false
set_option maxRecDepth 100000
open Go.RowKit
/- reach. -/
def ints (l : List Nat) : List Value := l.map fun s => .int .i64 (s : Nat)
theorem ints_len (l : List Nat) : (ints l).length = l.length := by simp [ints]
/-- A front: its box F, the truths in A. -/
structure FR (B : Nat) (w0 y : World) (F A : Nat) (stp : Value) (n : Nat) (la l : List Nat) (sl : Value) : Prop where
  bel : Below B w0 y
  f : y.heap[F]? = some (.cells #[stp, sl, .slice (some ⟨A, 0, none⟩) n n] 84)
  a : y.heap[A]? = some (.cells (mkb n la) 4)
  row : y.ownsRow B 3 1 sl l.length (ints l)
  hF : B ≤ F
  hA : B ≤ A
  fa : F ≠ A
  sF : sl.ownBlock ≠ some F
  sA : sl.ownBlock ≠ some A
  sz : B ≤ y.heap.size
theorem row_form {y : World} {B : Nat} {sl : Value} {n : Nat} {xs : List Value} (h : y.ownsRow B 3 1 sl n xs) : ∃ p c, sl = .slice p n c := by
  rcases h.2 with ⟨rfl, rfl⟩ | ⟨g, cap, cur, rfl, _⟩
  · exact ⟨_, _, rfl⟩
  · exact ⟨_, _, rfl⟩
theorem info3 : (Tryd.prog.info? 3).map (fun i => (i.zero, i.size, i.bytes)) = some (some (.int .i64 0), 1, 8) := by kernel_rfl
set_option maxHeartbeats 4000000 in
theorem reach_in {B : Nat} {w0 y : World} {F A n : Nat} {stp sl : Value} {l : List Nat} {s : Nat} (h : FR B w0 y F A stp n l l sl) (hs : s < n) (hn : n ≤ 4096) (hin : s ∈ l) :
    Calls Tryd.prog 44 #[.pointer (some ⟨F, 0, none⟩), .int .i64 (s : Nat)] y fun e y' => e = .returned (.tuple #[]) ∧ FR B w0 y' F A stp n l l sl := by
  have H := Lib.hid h
  have c2 : y.cell? ⟨F, 2, none⟩ = some (.slice (some ⟨A, 0, none⟩) n n) := cell_of_row y F 2 _ 84 (0, 0) h.f
  have ca : y.cell? ⟨A, s, none⟩ = some (.bool true) := by rw [cell_of_row y A s _ 4 (0, 0) h.a, mkb_get hs]; simp [hin]
  have hs1 : ¬ (s : Int) < 0 := by omega
  have hs2 : (s : Int) < (n : Int) := by omega
  clear h hin
  go_enter Tryd.func44, Tryd.ntmps44
  go_wp2_with fail
  go_end0
  exact ⟨rfl, H.out⟩
set_option maxHeartbeats 4000000 in
theorem reach_new {B : Nat} {w0 y : World} {F A n : Nat} {stp sl : Value} {l : List Nat} {s : Nat} (h : FR B w0 y F A stp n l l sl) (hs : s < n) (hn : n ≤ 4096) (hl : l.length ≤ 4096) (hin : ¬ s ∈ l) :
    Calls Tryd.prog 44 #[.pointer (some ⟨F, 0, none⟩), .int .i64 (s : Nat)] y fun e y' => e = .returned (.tuple #[]) ∧ ∃ sl', FR B w0 y' F A stp n (l ++ [s]) (l ++ [s]) sl' := by
  obtain ⟨i0, hi, hz0, hz1, hz2⟩ := info_parts info3
  obtain ⟨p, c, rfl⟩ := row_form h.row
  have c2 : y.cell? ⟨F, 2, none⟩ = some (.slice (some ⟨A, 0, none⟩) n n) := cell_of_row y F 2 _ 84 (0, 0) h.f
  have ca : y.cell? ⟨A, s, none⟩ = some (.bool false) := by rw [cell_of_row y A s _ 4 (0, 0) h.a, mkb_get hs]; simp [hin]
  have fa : y.frozen? ⟨A, s, none⟩ = false := frozen_of_row y A s _ 4 h.a
  have hs1 : ¬ (s : Int) < 0 := by omega
  have hs2 : (s : Int) < (n : Int) := by omega
  have hA1 : (y.setCell ⟨A, s, none⟩ (.bool true)).heap[A]? = some (.cells (mkb n (l ++ [s])) 4) := by
    have := heap_setCell_same y A s _ 4 (.bool true) h.a
    rwa [mkb_set] at this
  have hR1 : (y.setCell ⟨A, s, none⟩ (.bool true)).ownsRow B 3 1 (.slice p l.length c) l.length (ints l) := by
    refine World.ownsRow.kept h.row (row := some A) ⟨rfl, rfl, rfl, by simp, fun k hk hne => heap_setCell_other y _ k _ (fun e => hne (by rw [e]))⟩ ?_
    by_cases hp : (Value.slice p l.length c).ownBlock = none
    · exact .inl hp
    · exact .inr h.sA
  have H1 : Hid (FR B w0 (y.setCell ⟨A, s, none⟩ (.bool true)) F A stp n (l ++ [s]) l (.slice p l.length c)) := Lib.hid ⟨h.bel.setCell (p := ⟨A, s, none⟩) h.hA _, (heap_setCell_other y _ F _ h.fa).trans h.f, hA1, hR1, h.hF, h.hA, h.fa, h.sF, h.sA, by simpa using h.sz⟩
  clear hA1 hR1
  clear h hin
  go_enter Tryd.func44, Tryd.ntmps44
  go_upto_region 2 with fail
  refine at_world (fun z => FR B w0 z F A stp n (l ++ [s]) l (.slice p l.length c)) H1.out fun z hz => ?_
  have H2 := Lib.hid hz
  have c1 : z.cell? ⟨F, 1, none⟩ = some (.slice p l.length c) := cell_of_row z F 1 _ 84 (0, 0) hz.f
  have X4 := Lib.hid (World.ownsRow.alloc hz.row (.cells #[.int .i64 (s : Nat)] 3))
  have hzs := hz.sz
  have HYA := Lib.hid (show (z.alloc (.cells #[.int .i64 (s : Nat)] 3)).heap.size = z.heap.size + 1 by simp)
  clear hz c2 ca fa H1
  go_wp2_with (at_builtin; refine wpList_append_own_at _ rfl (.tmp 22) (.tmp 24) 39 rfl B 3 i0 (.int .i64 0) 1 8 Tryd.underlying39 hi hz0 hz1 hz2 rfl (by decide) (.slice p l.length c) l.length (ints l) rfl ?c0 ⟨z.heap.size, 0, none⟩ 1 1 [.int .i64 (s : Nat)] rfl rfl ?c1 ?c2 ?c3 ?c4 ?c5 ?_)
  case c0 => exact X4.out
  case c2 => simp [Value.oneCell']
  case c3 => unfold maxLen; omega
  case c4 => omega
  case c5 => have := HYA.out; omega
  intro v' w7 hown7 hgrow7 _ hat7
  obtain ⟨p7, c7, rfl⟩ := row_form hown7
  obtain ⟨v', hv'⟩ : ∃ v', v' = Value.slice p7 (l.length + 1) c7 := ⟨_, rfl⟩
  rw [← hv'] at hown7 hat7
  have hya := HYA.out
  have hFne : (Value.slice p l.length c).ownBlock ≠ some F := H2.out.sF
  have hAne : (Value.slice p l.length c).ownBlock ≠ some A := H2.out.sA
  have hFlt : F < z.heap.size := (Array.getElem?_eq_some_iff.1 H2.out.f).1
  have hAlt : A < z.heap.size := (Array.getElem?_eq_some_iff.1 H2.out.a).1
  have hF7 : w7.heap[F]? = some (.cells #[stp, .slice p l.length c, .slice (some ⟨A, 0, none⟩) n n] 84) := (hgrow7.block F (by omega) (fun e => hFne e.symm)).trans ((heap_alloc_old z _ hFlt).trans H2.out.f)
  have hA7 : w7.heap[A]? = some (.cells (mkb n (l ++ [s])) 4) := (hgrow7.block A (by omega) (fun e => hAne e.symm)).trans ((heap_alloc_old z _ hAlt).trans H2.out.a)
  have hF8 : w7.cell? ⟨F, 1, none⟩ = some (.slice p l.length c) := cell_of_row w7 F 1 _ 84 (0, 0) hF7
  have hFf : w7.frozen? ⟨F, 1, none⟩ = false := frozen_of_row w7 F 1 _ 84 hF7
  have hvF : v'.ownBlock ≠ some F := by rcases hat7 with e | e <;> rw [e]; exact hFne; intro h; cases h; omega
  have hvA : v'.ownBlock ≠ some A := by rcases hat7 with e | e <;> rw [e]; exact hAne; intro h; cases h; omega
  have hbel7 : Below B w0 w7 := below_grown ((H2.out.bel.alloc H2.out.sz _)) hgrow7 (fun g hg => (World.ownsRow.lt X4.out g hg).1) (by omega)
  have hints : ints (l ++ [s]) = ints l ++ [.int .i64 (s : Nat)] := by simp [ints]
  have hrow7 : w7.ownsRow B 3 1 v' (l ++ [s]).length (ints (l ++ [s])) := by rw [hints, List.length_append]; exact hown7
  have hsz7 := hgrow7.size
  have hR3 : (w7.setCell ⟨F, 1, none⟩ v').ownsRow B 3 1 v' (l ++ [s]).length (ints (l ++ [s])) := by
    refine World.ownsRow.kept hrow7 (row := some F) ⟨rfl, rfl, rfl, by simp, fun k hk hne => heap_setCell_other w7 _ k _ (fun e => hne (by rw [e]))⟩ ?_
    by_cases hp : v'.ownBlock = none
    · exact .inl hp
    · exact .inr hvF
  have H3 : Hid (FR B w0 (w7.setCell ⟨F, 1, none⟩ v') F A stp n (l ++ [s]) (l ++ [s]) v') := Lib.hid ⟨hbel7.setCell (p := ⟨F, 1, none⟩) H2.out.hF _, heap_setCell_same w7 F 1 _ 84 v' hF7, (heap_setCell_other w7 _ A _ (fun e => H2.out.fa e.symm)).trans hA7, hR3, H2.out.hF, H2.out.hA, H2.out.fa, hvF, hvA, by simp; omega⟩
  clear hR3
  rw [hv'] at H3
  subst hv'
  clear hown7 hgrow7 hat7 hF7 hA7 hbel7 hrow7 hints hvF hvA X4 H2 c1
  go_wp2_with fail
  go_end0
  exact ⟨rfl, _, H3.out⟩
theorem reach_any {B : Nat} {w0 y : World} {F A n : Nat} {stp sl : Value} {l : List Nat} {s : Nat} (h : FR B w0 y F A stp n l l sl) (hs : s < n) (hn : n ≤ 4096) (hl : l.length ≤ 4096) :
    Calls Tryd.prog 44 #[.pointer (some ⟨F, 0, none⟩), .int .i64 (s : Nat)] y fun e y' => e = .returned (.tuple #[]) ∧ ∃ sl', FR B w0 y' F A stp n (rch l s) (rch l s) sl' := by
  unfold rch
  by_cases hin : s ∈ l
  · rw [if_pos hin]
    exact (reach_in h hs hn hin).mono fun e y' k => ⟨k.1, sl, k.2⟩
  · rw [if_neg hin]
    exact reach_new h hs hn hl hin
end Go.Proofs.YthglciccejholaaDoor
end
