/- write and span: a stretch of a tree's text; Text and Slice. -/
import Derived.Test.YtagjeckgfjddmaaRope
namespace Go.Proofs.Ytagjeckgfjddmaa
set_option linter.unusedSimpArgs false
set_option linter.unusedVariables false
open Go.RowKit

def cut (l : List UInt8) (f g : Int) : List UInt8 := (l.take g.toNat).drop f.toNat
theorem cut_app (a b : List UInt8) (f g : Int) : cut (a ++ b) f g = cut a f g ++ cut b (f - a.length) (g - a.length) := by
  unfold cut
  rw [List.take_append, List.drop_append, List.length_take]
  congr 1
  rcases Int.lt_or_le g a.length with h | h
  · rw [show (g - a.length).toNat = 0 by omega, show g.toNat - a.length = 0 by omega]; simp
  · rw [show (g - a.length).toNat = g.toNat - a.length by omega, show f.toNat - min g.toNat a.length = (f - a.length).toNat by omega]
theorem cut_none (l : List UInt8) (f g : Int) (h : (l.length : Int) ≤ f ∨ g ≤ 0) : cut l f g = [] := by
  unfold cut
  rcases h with h | h
  · exact List.drop_eq_nil_of_le (by rw [List.length_take]; omega)
  · rw [show g.toNat = 0 by omega]; simp
theorem cut_ext (s : ByteArray) (f g : Int) (p q : Nat) (hp : max f 0 = p) (hq : min g s.size = q) : (s.extract p q).data.toList = cut s.data.toList f g := by
  unfold cut
  rw [ByteArray.data_extract, Array.toList_extract, List.extract_eq_drop_take', show f.toNat = p by omega]
  rcases Int.lt_or_le g s.size with h | h
  · rw [show g.toNat = q by omega]
  · rw [show q = s.data.toList.length by rw [ba_len]; omega, List.take_length, List.take_of_length_le (by rw [ba_len]; omega)]

abbrev Bd (w0 : World) (bb : Nat) (bs : List Value) (w : World) : Prop := Lib.BuilderAt 103 5 w0.heap.size bb (.pointer (some ⟨bb, 0, none⟩)) bs w
def Wrote (w0 : World) (bb : Nat) (bs : List Value) (e : Ending) (w' : World) : Prop := e = .returned (.tuple #[]) ∧ Bd w0 bb bs w' ∧ Below w0.heap.size w0 w'

theorem write_nil (w0 : World) (bb : Nat) (f g : Int) (bs : List Value) (w : World) (hB : Bd w0 bb bs w) (hL : Below w0.heap.size w0 w) :
    Calls Try.prog 70 #[.pointer none, ptr bb, .int .i64 f, .int .i64 g] w (Wrote w0 bb bs) := by
  have hB' := Lib.hid hB
  have hL' := Lib.hid hL
  clear hB hL
  go_enter Try.func70, Try.ntmps70
  go_wp2
  go_end0
  exact ⟨rfl, hB'.out, hL'.out⟩
theorem write_out (w0 : World) (bb : Nat) (t : T) (f g : Int) (bs : List Value) (w : World) (ht : Rep w t) (hB : Bd w0 bb bs w) (hL : Below w0.heap.size w0 w) (h : (t.size : Int) ≤ f ∨ g ≤ 0) :
    Calls Try.prog 70 #[ptr t.blk, ptr bb, .int .i64 f, .int .i64 g] w (Wrote w0 bb bs) := by
  obtain ⟨p_a, q_a, s_a, a0, a1, a2, a3, a4, a5, a6, az⟩ := ht.node
  have hB' := Lib.hid hB
  have hL' := Lib.hid hL
  clear hB hL ht
  by_cases h1 : (t.size : Int) ≤ f
  · clear h
    go_enter Try.func70, Try.ntmps70
    go_wp2
    go_end0
    exact ⟨rfl, hB'.out, hL'.out⟩
  · have h2 : g ≤ 0 := by omega
    clear h
    go_enter Try.func70, Try.ntmps70
    go_wp2
    go_end0
    exact ⟨rfl, hB'.out, hL'.out⟩
set_option maxHeartbeats 2000000 in
set_option maxRecDepth 100000 in
theorem write_leaf (w0 : World) (bb b : Nat) (s : ByteArray) (f g : Int) (bs : List Value) (w : World) (ht : Rep w (.leaf b s)) (hB : Bd w0 bb bs w) (hL : Below w0.heap.size w0 w) (h1 : f < s.size) (h2 : 0 < g) (hfg : f ≤ g) (hn : bs.length + s.size ≤ 1000000) :
    Calls Try.prog 70 #[ptr b, ptr bb, .int .i64 f, .int .i64 g] w (Wrote w0 bb (bs ++ Lib.byteCells (cut s.data.toList f g))) := by
  obtain ⟨a0, a1, a2, a3, a4, a5, a6, az⟩ := ht.1
  obtain ⟨p, hp⟩ : ∃ p : Nat, max f 0 = p := ⟨(max f 0).toNat, by omega⟩
  obtain ⟨q, hq⟩ : ∃ q : Nat, min g s.size = q := ⟨(min g s.size).toNat, by omega⟩
  have i1 : (p : Int) ≤ (q : Int) := by omega
  have i2 : (q : Int) ≤ (s.size : Int) := by omega
  have i0 : (0 : Int) ≤ (p : Int) := by omega
  have hc := Lib.hid (cut_ext s f g p q hp hq)
  have hz : (s.extract p q).size ≤ s.size := by simp; omega
  obtain ⟨u, hu⟩ : ∃ u, s.extract p q = u := ⟨_, rfl⟩
  rw [hu] at hc hz
  have hB' := Lib.hid hB
  have hL' := Lib.hid hL
  have hu' := Lib.hid hu
  have hp' := Lib.hid hp
  have hq' := Lib.hid hq
  clear hB hL hu hp hq
  have n1 : ¬ (s.size : Int) ≤ f := by omega
  have n2 : ¬ g ≤ 0 := by omega
  go_enter Try.func70, Try.ntmps70
  go_wp2_with fail
  have e1 := hp'.out
  have e2 := hq'.out
  have e3 := hu'.out
  go_still_tail 14, (by kernel_rfl)
  clear e1 e2 e3
  change wpList _ _ _ _ _ w.drew
  go_wp2_with fail
  refine (Ed.write_any w0.heap.size bb bs u _ hB'.out.drew (by omega) hL'.out.size).mono ?_
  rintro _ w2 ⟨rfl, hat2, hb2⟩
  rw [Lib.strCells_eq, hc.out] at hat2
  have hat := Lib.hid hat2
  have hb := Lib.hid hb2
  clear hat2 hb2
  go_wp2
  go_end0
  exact ⟨rfl, hat.out, hL'.out.drew.trans hb.out⟩

def WriteAt (w0 : World) (bb : Nat) (t : T) : Prop := ∀ (f g : Int) (bs : List Value) (w : World), Bd w0 bb bs w → Below w0.heap.size w0 w → f ≤ g → t.size - f ≤ 1000000 → g ≤ 1000000 → -1000000 ≤ g → bs.length + t.size ≤ 1000000 →
  Calls Try.prog 70 #[ptr t.blk, ptr bb, .int .i64 f, .int .i64 g] w (Wrote w0 bb (bs ++ Lib.byteCells (cut t.bytes f g)))
set_option maxHeartbeats 4000000 in
set_option maxRecDepth 100000 in
theorem write_fork (w0 : World) (bb tb : Nat) (l r : T) (hl : WriteAt w0 bb l) (hr : WriteAt w0 bb r) (f g : Int) (bs : List Value) (w : World) (ht : Rep w0 (.fork tb l r)) (hB : Bd w0 bb bs w) (hL : Below w0.heap.size w0 w) (h1 : f < l.size + r.size) (h2 : 0 < g) (hfg : f ≤ g) (hf : (l.size + r.size : Int) - f ≤ 1000000) (hg : g ≤ 1000000) (hn : bs.length + (l.size + r.size) ≤ 1000000) :
    Calls Try.prog 70 #[ptr tb, ptr bb, .int .i64 f, .int .i64 g] w (Wrote w0 bb (bs ++ Lib.byteCells (cut (l.bytes ++ r.bytes) f g))) := by
  have c1 := Lib.hid (fun wz (q1 : Bd w0 bb bs wz) (q2 : Below w0.heap.size w0 wz) => hl f g bs wz q1 q2 hfg (by omega) hg (by omega) (by omega))
  have hlen : (Lib.byteCells (cut l.bytes f g)).length ≤ l.size := by
    rw [Lib.byteCells_length]; unfold cut; rw [List.length_drop, List.length_take, T.len_eq]; omega
  have c2 := Lib.hid (fun wz (q1 : Bd w0 bb (bs ++ Lib.byteCells (cut l.bytes f g)) wz) (q2 : Below w0.heap.size w0 wz) => hr (f - l.size) (g - l.size) (bs ++ Lib.byteCells (cut l.bytes f g)) wz q1 q2 (by omega) (by omega) (by omega) (by omega) (by rw [List.length_append]; omega))
  have hcc := Lib.hid (show bs ++ Lib.byteCells (cut l.bytes f g) ++ Lib.byteCells (cut r.bytes (f - l.size) (g - l.size)) = bs ++ Lib.byteCells (cut (l.bytes ++ r.bytes) f g) by
    rw [cut_app, Lib.byteCells_append, List.append_assoc, T.len_eq])
  have ht' := Lib.hid ht
  have hB' := Lib.hid hB
  have hL' := Lib.hid hL
  have s1 := IntWalk.i64_in (f - (l.size : Int)) (by omega)
  have s2 := IntWalk.i64_in (g - (l.size : Int)) (by omega)
  have s1' := Lib.hid s1
  have s2' := Lib.hid s2
  obtain ⟨⟨a0, a1, a2, a3, a4, a5, a6, az⟩, -, -⟩ := ht.below hL
  have n1 : ¬ ((l.size + r.size : Nat) : Int) ≤ f := by omega
  have n2 : ¬ g ≤ 0 := by omega
  clear hB hL ht hl hr hlen s1 s2
  go_enter Try.func70, Try.ntmps70
  go_wp2_with fail
  refine (c1.out _ hB'.out hL'.out).mono ?_
  rintro _ w2 ⟨rfl, hat2, hb2⟩
  have hat := Lib.hid hat2
  have hb := Lib.hid hb2
  clear a0 a1 a2 a3 a4 a5 a6 az hat2
  obtain ⟨⟨a0, a1, a2, a3, a4, a5, a6, az⟩, hl2, -⟩ := ht'.out.below hb2
  obtain ⟨p_l, q_l, s_l, l0, l1, l2, l3, l4, l5, l6, lz⟩ := hl2.node
  clear hb2 hl2
  go_wp2_with fail
  have s1 := s1'.out
  have s2 := s2'.out
  go_still_tail 23, (by kernel_rfl)
  clear s1 s2
  change wpList _ _ _ _ _ w2.drew
  go_wp2_with fail
  refine (c2.out _ hat.out.drew hb.out.drew).mono ?_
  rintro _ w3 ⟨rfl, hat2, hb2⟩
  rw [hcc.out] at hat2
  have hat3 := Lib.hid hat2
  have hb3 := Lib.hid hb2
  clear hat2 hb2
  go_wp2
  go_end0
  exact ⟨rfl, hat3.out, hb3.out⟩

theorem write_at (w0 : World) (bb : Nat) (t : T) (ht : Rep w0 t) : WriteAt w0 bb t := by
  induction t with
  | leaf b s =>
    intro f g bs w hB hL hfg hf hg hg2 hn
    have hw := ht.below hL
    by_cases h : (s.size : Int) ≤ f ∨ g ≤ 0
    · rw [show cut (T.leaf b s).bytes f g = [] from cut_none _ _ _ (by simpa [T.bytes] using h)]
      have := write_out w0 bb (.leaf b s) f g bs w hw hB hL h
      simpa [Lib.byteCells] using this
    · exact write_leaf w0 bb b s f g bs w hw hB hL (by omega) (by omega) hfg hn
  | fork b l r hl hr =>
    intro f g bs w hB hL hfg hf hg hg2 hn
    have hw := ht.below hL
    simp only [T.size] at hf hn
    by_cases h : ((l.size + r.size : Nat) : Int) ≤ f ∨ g ≤ 0
    · rw [show cut (T.fork b l r).bytes f g = [] from cut_none _ _ _ (by rw [T.len_eq]; exact h)]
      have := write_out w0 bb (.fork b l r) f g bs w hw hB hL h
      simpa [Lib.byteCells] using this
    · exact write_fork w0 bb b l r (hl ht.2.1) (hr ht.2.2) f g bs w ht hB hL (by omega) (by omega) hfg (by omega) hg (by omega)

theorem span_any (o : Option T) (f g : Int) (w : World) (ho : RepO w o) (hfg : f ≤ g) (hf : 0 ≤ f) (hg : g ≤ total (lvs o)) (hn : total (lvs o) ≤ 100000) :
    Calls Try.prog 47 #[topPtr o, .int .i64 f, .int .i64 g] w fun e w' => e = .returned (.string ⟨(cut (flat (lvs o)) f g).toArray⟩) ∧ Below w.heap.size w w' := by
  have hwr := Lib.hid (fun wz (q1 : Bd w w.heap.size [] wz) (q2 : Below w.heap.size w wz) => (show Calls Try.prog 70 #[topPtr o, ptr w.heap.size, .int .i64 f, .int .i64 g] wz (Wrote w w.heap.size (Lib.byteCells (cut (flat (lvs o)) f g))) by
    cases o with
    | none =>
      have := write_nil w w.heap.size f g [] wz q1 q2
      have e : cut (flat (lvs none)) f g = [] := by simp [lvs, flat, cut]
      rw [e]; exact this
    | some t =>
      have hs : total (lvs (some t)) = t.size := by rw [T.size_eq]; rfl
      have hb : flat (lvs (some t)) = t.bytes := by rw [T.bytes_eq]; rfl
      rw [hb]
      have := write_at w w.heap.size t ho f g [] wz q1 q2 hfg (by omega) (by omega) (by omega) (by simp; omega)
      simpa [topPtr] using this))
  obtain ⟨v, hv⟩ : ∃ v, topPtr o = v := ⟨_, rfl⟩
  rw [hv] at hwr ⊢
  clear hv ho
  go_enter Try.func47, Try.ntmps47
  go_wp2_with fail
  refine (Ed.grow_int w.heap.size w.heap.size _ _ (Nat.le_refl _) (heap_alloc_new _ _) (by simp) (by omega) (by omega)).mono ?_
  rintro _ w2 ⟨rfl, hat2, hb2⟩
  have L2 := Lib.hid (((Below.refl w.heap.size w).alloc (Nat.le_refl _) _).trans hb2)
  have hat := Lib.hid hat2
  clear hat2 hb2
  go_wp2_with fail
  refine (hwr.out _ hat.out L2.out).mono ?_
  rintro _ w3 ⟨rfl, hat3, hb3⟩
  have hat3' := Lib.hid hat3
  have hb3' := Lib.hid hb3
  clear hat3 hb3
  go_wp2_with fail
  refine (Try.Builder_String_any w.heap.size w.heap.size _ _ (.inr hat3'.out) hb3'.out.size).mono ?_
  rintro _ w4 ⟨rfl, hb4⟩
  go_wp2
  go_ret
  exact ⟨rfl, hb3'.out.trans hb4⟩
end Go.Proofs.Ytagjeckgfjddmaa
