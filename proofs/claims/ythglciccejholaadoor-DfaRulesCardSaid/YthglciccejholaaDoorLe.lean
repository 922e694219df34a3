/- Package nfa. -/
import Derived.Test.YthglciccejholaaDoorProg
import Derived.Test.YthglciccejholaaDoorV44
import Derived.Test.YthglciccejholaaDoorV9
import Derived.WalkKit
import Derived.WalkLawsBesides
import Derived.WalkSpells
import Derived.Outline
import Derived.Lib.Walk
import Derived.Lib.Hide
import Derived.Lib.Slices
import Derived.Lib.Strings
import Derived.RegionTactic
import Derived.LoopTactic
import Derived.Below
import Derived.IntWalk
import Derived.Deep.QuietTactic
import Derived.BigQuiet
import Derived.Deep.MidRow
import Derived.Maps.AppendAt
import Derived.Laws.Rows
import Derived.Laws.Tables
import Derived.Deep.WholeRow
import Derived.Deep.Cut
import Derived.Deep.CutRange
import Derived.Lib.SliceRun
import Derived.Laws.MakeOwn
import Derived.Deep.RegionLaw
import Derived.Deep.RegionLawGrows
import Derived.Deep.RegionHeld3
import Derived.RegionCalls
import Derived.Deep.RegionWith
import Derived.Deep.Light
namespace Go.Proofs.YthglciccejholaaDoor
set_option linter.unusedSimpArgs false
set_option linter.unusedVariables false
set_option maxRecDepth 100000
open Go.RowKit
/- What is laid of a maybe. -/
/-- What lies while it is laid. -/
structure n6_MS (B : Nat) (P : Nat → Prop) (w0 z0 : World) (bb : Nat) (ss : List Nq) (sl : Value) (R1 : List Nst) (F t : Int) (l7 l9 l10 : Bool) (x9 : Value) (w : World) : Prop where
  k : ∀ b, P b → w.heap[b]? = z0.heap[b]?
  m0 : l7 = false → BB B P w0 w bb ss sl
  m7 : l7 = true → l9 = false → ∃ sl5 zs5, BB B P w0 w bb (ss ++ zs5) sl5 ∧ zs5.map (fun q : Nq => q.1) = R1
  m9 : l9 = true → l10 = false → ∃ sl5 zs5 g, BB B P w0 w bb (ss ++ zs5) sl5 ∧ zs5.map (fun q : Nq => q.1) = R1 ∧ x9 = .slice (some ⟨g, 0, none⟩) 2 2 ∧ IVf (fun b => B ≤ b ∧ b < w.heap.size ∧ some b ≠ sl5.ownBlock ∧ b ≠ bb ∧ ¬ P b) w [F, t] x9
  m10 : l10 = true → ∃ sl5 zs5, BB B P w0 w bb (ss ++ zs5) sl5 ∧ zs5.map (fun q : Nq => q.1) = R1 ++ [⟨uZ, -1, [F, t], -1⟩]
section
variable {B : Nat} {P : Nat → Prop} {w0 z0 w w' : World} {bb : Nat} {ss : List Nq} {sl : Value} {R1 : List Nst} {F t : Int} {l7 l9 l10 : Bool} {x9 : Value}
theorem ms_start (h : BB B P w0 z0 bb ss sl) : n6_MS B P w0 z0 bb ss sl R1 F t false false false x9 z0.drew :=
  ⟨fun _ _ => rfl, fun _ => h.up (below_drewN (Below.refl z0.heap.size z0) 1), nofun, nofun, nofun⟩
theorem ms7 (h : n6_MS B P w0 z0 bb ss sl R1 F t l7 l9 l10 x9 w) (h9 : l9 = false) (h10 : l10 = false) (hb : ∃ sl' zs', BB B P w0 w' bb (ss ++ zs') sl' ∧ zs'.map (fun q : Nq => q.1) = R1) (hk : ∀ b, P b → w'.heap[b]? = w.heap[b]?) : n6_MS B P w0 z0 bb ss sl R1 F t true l9 l10 x9 w' := by
  subst h9 h10
  exact ⟨fun b hp => (hk b hp).trans (h.k b hp), nofun, fun _ _ => hb, nofun, nofun⟩
theorem ms9 (h : n6_MS B P w0 z0 bb ss sl R1 F t l7 l9 l10 x9 w) (h7 : l7 = true) (h9 : l9 = false) (h10 : l10 = false) : n6_MS B P w0 z0 bb ss sl R1 F t l7 true l10 (.slice (some ⟨w.heap.size, 0, none⟩) 2 2) (w.alloc (.cells #[.int .i64 F, .int .i64 t] 3)) := by
  subst h7 h9 h10
  obtain ⟨sl5, zs5, hB, hz⟩ := h.m7 rfl rfl
  have hb := (Below.refl w.heap.size w).alloc (Nat.le_refl _) (.cells #[.int .i64 F, .int .i64 t] 3)
  have hbb := (Array.getElem?_eq_some_iff.1 hB.f).1
  refine ⟨fun b hp => (hb.block b (hB.pr b hp).1).trans (h.k b hp), nofun, nofun, fun _ _ => ⟨sl5, zs5, w.heap.size, hB.up hb, hz, rfl, _, _, rfl, fun _ => ⟨w.heap.size, 0, rfl, ⟨hB.sz, by simp, fun e => ?_, by omega, fun hp => ?_⟩, fun i hi => ?_, _, _, heap_alloc_last w _⟩⟩, nofun⟩
  · have := (World.ownsRow.lt hB.ts.2 _ e.symm).2; omega
  · have := (hB.pr _ hp).1; omega
  · rw [cell_of_row _ w.heap.size _ _ 3 (0, 0) (heap_alloc_last w _), Nat.zero_add]
    have : i = 0 ∨ i = 1 := by simp at hi; omega
    rcases this with rfl | rfl <;> rfl
theorem ms10 (h : n6_MS B P w0 z0 bb ss sl R1 F t l7 l9 l10 x9 w) (h7 : l7 = true) (h9 : l9 = true) (hb : ∃ sl' zs', BB B P w0 w' bb (ss ++ zs') sl' ∧ zs'.map (fun q : Nq => q.1) = R1 ++ [⟨uZ, -1, [F, t], -1⟩]) (hk : ∀ b, P b → w'.heap[b]? = w.heap[b]?) : n6_MS B P w0 z0 bb ss sl R1 F t l7 l9 true x9 w' := by
  subst h7 h9
  exact ⟨fun b hp => (hk b hp).trans (h.k b hp), nofun, nofun, nofun, fun _ => hb⟩
end
set_option maxHeartbeats 16000000 in
theorem lay_maybeP {B : Nat} {P : Nat → Prop} {w0 y : World} {bb : Nat} {ss : List Nq} {sl : Value} {pt : RT} {k : Int} {u us : Nat → Int} {t : Int} {p : Option Addr} {n c b o cs : Nat} (IH : LayOK pt) (h : BB B P w0 y bb ss sl) (hlen : ss.length + 1 + sz pt * 8192 ≤ 900000000) (hP : P b) (hv : RV P y pt (.agg (nodeC k u (.slice p n c))))
    (hc : ∀ j v, (nodeC k u (.slice p n c))[j]? = some v → y.cell? ⟨b, o + j, none⟩ = some v) :
    Calls Tryd.prog 39 #[.pointer (some ⟨bb, 0, none⟩), .agg (nodeC 7 us (.slice (some ⟨b, o, none⟩) 1 cs)), .int .i64 t] y (LayPost B P w0 y bb ss ((layF pt t ss.length).1 ++ [⟨uZ, -1, [(layF pt t ss.length).2, t], -1⟩], ((ss.length + (layF pt t ss.length).1.length : Nat) : Int))) := by
  have hll := layF_len pt t ss.length
  obtain ⟨R, hR⟩ : ∃ R, layF pt t ss.length = R := ⟨_, rfl⟩
  rw [hR] at hll ⊢
  obtain ⟨R1, F⟩ := R
  simp only at hll ⊢
  have HLL := Lib.hid hll
  have HRR := Lib.hid hR
  have hbl := blk_lt (hc 0 _ rfl)
  have z1 : (y.alloc (.cells #[.pointer (some ⟨bb, 0, none⟩)] 118)).heap.size = y.heap.size + 1 := by simp
  have z2 : ((y.alloc (.cells #[.pointer (some ⟨bb, 0, none⟩)] 118)).alloc (.cells #[.int .i64 7, .int .u64 (us 0), .int .u64 (us 1), .int .u64 (us 2), .int .u64 (us 3), .slice (some ⟨b, o, none⟩) 1 cs] 27)).heap.size = y.heap.size + 1 + 1 := by simp
  have hb0 := (((Below.refl y.heap.size y).alloc (Nat.le_refl _) (.cells #[.pointer (some ⟨bb, 0, none⟩)] 118)).alloc (by simp) (.cells #[.int .i64 7, .int .u64 (us 0), .int .u64 (us 1), .int .u64 (us 2), .int .u64 (us 3), .slice (some ⟨b, o, none⟩) 1 cs] 27)).alloc (by simp; omega) (.cells #[.int .i64 t] 3)
  have hB3 := ((h.allocP (.cells #[.pointer (some ⟨bb, 0, none⟩)] 118)).allocP (.cells #[.int .i64 7, .int .u64 (us 0), .int .u64 (us 1), .int .u64 (us 2), .int .u64 (us 3), .slice (some ⟨b, o, none⟩) 1 cs] 27)).allocP (.cells #[.int .i64 t] 3)
  rw [z1, z2] at hB3
  have HB := Lib.hid hB3
  have HK := Lib.hid fun b (hp : P b) => hb0.block b (h.pr b hp).1
  have HCC := Lib.hid fun j v hv => (cell_same (hb0.block b hbl) _).trans (hc j v hv)
  have HRV := Lib.hid (hv.mono (E := P) (fun b h => h) (fun b hp _ => hb0.block b (h.pr b hp).1))
  have S0 := Lib.hid ((((Sb.start y).alloc (.cells #[.pointer (some ⟨bb, 0, none⟩)] 118)).alloc (.cells #[.int .i64 7, .int .u64 (us 0), .int .u64 (us 1), .int .u64 (us 2), .int .u64 (us 3), .slice (some ⟨b, o, none⟩) 1 cs] 27)).alloc (.cells #[.int .i64 t] 3))
  rw [z1, z2] at S0
  clear h hc hb0 hv z1 z2 hR hll hB3
  unfold nodeC at *
  go_enter Tryd.func39, Tryd.ntmps39
  go_upto_region 20 with fail
  obtain ⟨Y, hY⟩ : ∃ Y, y.heap.size = Y := ⟨_, rfl⟩
  rw [hY] at HB S0 ⊢
  refine at_world (fun z => BB B (fun b => ((P b ∨ b = Y) ∨ b = Y + 1) ∨ b = Y + 1 + 1) w0 z bb ss sl ∧ Sb y z [(Y + 1 + 1, .cells #[.int .i64 t] 3), (Y + 1, .cells #[.int .i64 7, .int .u64 (us 0), .int .u64 (us 1), .int .u64 (us 2), .int .u64 (us 3), .slice (some ⟨b, o, none⟩) 1 cs] 27), (Y, .cells #[.pointer (some ⟨bb, 0, none⟩)] 118)] ∧ (∀ j v, (#[.int .i64 k, .int .u64 (u 0), .int .u64 (u 1), .int .u64 (u 2), .int .u64 (u 3), .slice p n c] : Array Value)[j]? = some v → z.cell? ⟨b, o + j, none⟩ = some v) ∧ (∀ b, P b → z.heap[b]? = y.heap[b]?) ∧ RV P z pt (.agg #[.int .i64 k, .int .u64 (u 0), .int .u64 (u 1), .int .u64 (u 2), .int .u64 (u 3), .slice p n c])) ⟨HB.out, S0.out, HCC.out, HK.out, HRV.out⟩ fun z hz => ?_
  have HPK := Lib.hid hz.2.2.2.1
  have x0 : z.cell? ⟨Y, 0, none⟩ = some (.pointer (some ⟨bb, 0, none⟩)) := hz.2.1.tl.tl.cell 0
  have x1 : z.cell? ⟨Y + 1, 5, none⟩ = some (.slice (some ⟨b, o, none⟩) 1 cs) := hz.2.1.tl.cell 5
  have x2 : z.cell? ⟨Y + 1 + 1, 0, none⟩ = some (.int .i64 t) := hz.2.1.cell 0
  obtain ⟨PP, hPP⟩ : ∃ PP : Nat → Prop, (fun b => ((P b ∨ b = Y) ∨ b = Y + 1) ∨ b = Y + 1 + 1) = PP := ⟨_, rfl⟩
  have q0 : PP Y := by rw [← hPP]; exact .inl (.inl (.inr rfl))
  have q1 : PP (Y + 1) := by rw [← hPP]; exact .inl (.inr rfl)
  have q2 : PP (Y + 1 + 1) := by rw [← hPP]; exact .inr rfl
  have qs : ∀ b, P b → PP b := fun b h => by rw [← hPP]; exact .inl (.inl (.inl h))
  have qb : PP b := qs b hP
  have hB := hz.1
  rw [hPP] at hB
  have HBB := Lib.hid hB
  have HRV2 : Hid (∀ w : World, (∀ b, PP b → w.heap[b]? = z.heap[b]?) → RV PP w pt (.agg #[.int .i64 k, .int .u64 (u 0), .int .u64 (u 1), .int .u64 (u 2), .int .u64 (u 3), .slice p n c])) := Lib.hid fun w hw => hz.2.2.2.2.mono qs (fun b hp _ => hw b (qs b hp))
  have HCL := Lib.hid hz.2.2.1
  have HQS := Lib.hid qs
  have HY := Lib.hid hY
  clear hz HB S0 HCC HK HRV hPP hB qs hY
  refine wp_region_owed2 (fun l act w1 => ∃ X : Nat → Value, act = ⟨(List.toArray ((Value.pointer (some { block := bb, off := 0 })) :: (Value.agg #[Value.int IntKind.i64 7, Value.int IntKind.u64 (us 0), Value.int IntKind.u64 (us 1), Value.int IntKind.u64 (us 2), Value.int IntKind.u64 (us 3), Value.slice (some { block := b, off := o }) 1 cs]) :: (Value.int IntKind.i64 t) :: (Value.pointer (some { block := Y, off := 0 })) :: (Value.pointer (some { block := Y + 1, off := 0 })) :: (Value.pointer (some { block := Y + 1 + 1, off := 0 })) :: X 11 :: (undef) :: (undef) :: (undef) :: (undef) :: (undef) :: (undef) :: (Value.pointer (some { block := Y + 1, off := 0 })) :: (Value.int IntKind.i64 7) :: (Value.bool false) :: (Value.bool false) :: (undef) :: (Value.bool false) :: (Value.bool false) :: (undef) :: (undef) :: (undef) :: (undef) :: (undef) :: (undef) :: (Value.bool false) :: (Value.bool false) :: (undef) :: (undef) :: (undef) :: (undef) :: (undef) :: (undef) :: (undef) :: (undef) :: (undef) :: (undef) :: (Value.bool false) :: (Value.bool false) :: (undef) :: (undef) :: (undef) :: (undef) :: (undef) :: (Value.bool false) :: (Value.bool false) :: (undef) :: (undef) :: (undef) :: (undef) :: (undef) :: (undef) :: (undef) :: (undef) :: (undef) :: (undef) :: (undef) :: (Value.bool false) :: (Value.bool false) :: (undef) :: (undef) :: (undef) :: (undef) :: (undef) :: (undef) :: (undef) :: (undef) :: (undef) :: (undef) :: (undef) :: (Value.bool true) :: (Value.bool true) :: X 0 :: X 1 :: X 2 :: X 3 :: X 4 :: X 5 :: X 6 :: X 7 :: X 8 :: X 9 :: X 10 :: (undef) :: (undef) :: [])), []⟩ ∧ (∀ i, l i = true → ([0, 1, 2, 3, 4, 5, 6, 7, 8, 10, 11] : List Nat).contains i = true → X i = (fun z1 => ([(.pointer (some ⟨bb, 0, none⟩)), (.pointer (some ⟨bb, 0, none⟩)), (.pointer (some ⟨Y + 1, 5, none⟩)), (.slice (some ⟨b, o, none⟩) 1 cs), (.pointer (some ⟨b, o, none⟩)), (.agg #[.int .i64 k, .int .u64 (u 0), .int .u64 (u 1), .int .u64 (u 2), .int .u64 (u 3), .slice p n c]), (.int .i64 t), (.int .i64 F), (.int .i64 t), undef, (.int .i64 ((ss.length + R1.length : Nat) : Int)), (.int .i64 ((ss.length + R1.length : Nat) : Int))] : List Value).getD z1 undef) i) ∧ n6_MS B PP w0 z bb ss sl R1 F t (l 7) (l 9) (l 10) (X 9) w1) (by kernel_rfl) (by kernel_rfl) ⟨(fun i => ([(undef), (undef), (undef), (undef), (undef), (undef), (undef), (undef), (undef), (undef), (undef), (Value.int IntKind.i64 0)] : List Value).getD i undef), rfl, (fun i h => by cases h), ms_start HBB.out⟩ ?st ?fin
  case st =>
    go_light
    refine Owed.next (n := 0) (o := ?o0) ?ho0 ?h0 ?hs0
    case ho0 => rfl
    case h0 =>
      intro l act w1 hw hl hI K hK
      obtain ⟨hc, X, rfl, hX, hT⟩ := hI
      have HX := Lib.hid (packsM 0 hX [] (fun _ h => nomatch h))
      clear hX
      have kk : w1.cell? ⟨Y, 0, none⟩ = some (.pointer (some ⟨bb, 0, none⟩)) := (cell_same (hT.k Y q0) 0).trans x0
      rw [if_pos (by rfl)]
      go_wp2_with fail
      exact hK.out _ _ ⟨hc.next hw, fun z0 => bif (0 :: []).contains z0 then (fun z1 => ([(.pointer (some ⟨bb, 0, none⟩)), (.pointer (some ⟨bb, 0, none⟩)), (.pointer (some ⟨Y + 1, 5, none⟩)), (.slice (some ⟨b, o, none⟩) 1 cs), (.pointer (some ⟨b, o, none⟩)), (.agg #[.int .i64 k, .int .u64 (u 0), .int .u64 (u 1), .int .u64 (u 2), .int .u64 (u 3), .slice p n c]), (.int .i64 t), (.int .i64 F), (.int .i64 t), undef, (.int .i64 ((ss.length + R1.length : Nat) : Int)), (.int .i64 ((ss.length + R1.length : Nat) : Int))] : List Value).getD z1 undef) z0 else X z0, rfl, HX.out, hT⟩
    refine Owed.next (n := 1) (o := ?o1) ?ho1 ?h1 ?hs1
    case ho1 => rfl
    case h1 =>
      intro l act w1 hw hl hI K hK
      obtain ⟨hc, X, rfl, hX, hT⟩ := hI
      have HX := Lib.hid (packsM 1 hX [] (fun _ h => nomatch h))
      clear hX
      have kk : w1.cell? ⟨Y, 0, none⟩ = some (.pointer (some ⟨bb, 0, none⟩)) := (cell_same (hT.k Y q0) 0).trans x0
      rw [if_pos (by rfl)]
      go_wp2_with fail
      exact hK.out _ _ ⟨hc.next hw, fun z0 => bif (1 :: []).contains z0 then (fun z1 => ([(.pointer (some ⟨bb, 0, none⟩)), (.pointer (some ⟨bb, 0, none⟩)), (.pointer (some ⟨Y + 1, 5, none⟩)), (.slice (some ⟨b, o, none⟩) 1 cs), (.pointer (some ⟨b, o, none⟩)), (.agg #[.int .i64 k, .int .u64 (u 0), .int .u64 (u 1), .int .u64 (u 2), .int .u64 (u 3), .slice p n c]), (.int .i64 t), (.int .i64 F), (.int .i64 t), undef, (.int .i64 ((ss.length + R1.length : Nat) : Int)), (.int .i64 ((ss.length + R1.length : Nat) : Int))] : List Value).getD z1 undef) z0 else X z0, rfl, HX.out, hT⟩
    refine Owed.next (n := 2) (o := ?o2) ?ho2 ?h2 ?hs2
    case ho2 => rfl
    case h2 =>
      intro l act w1 hw hl hI K hK
      obtain ⟨hc, X, rfl, hX, hT⟩ := hI
      have HX := Lib.hid (packsM 2 hX [] (fun _ h => nomatch h))
      clear hX
      rw [if_pos (by rfl)]
      go_wp2_with fail
      exact hK.out _ _ ⟨hc.next hw, fun z0 => bif (2 :: []).contains z0 then (fun z1 => ([(.pointer (some ⟨bb, 0, none⟩)), (.pointer (some ⟨bb, 0, none⟩)), (.pointer (some ⟨Y + 1, 5, none⟩)), (.slice (some ⟨b, o, none⟩) 1 cs), (.pointer (some ⟨b, o, none⟩)), (.agg #[.int .i64 k, .int .u64 (u 0), .int .u64 (u 1), .int .u64 (u 2), .int .u64 (u 3), .slice p n c]), (.int .i64 t), (.int .i64 F), (.int .i64 t), undef, (.int .i64 ((ss.length + R1.length : Nat) : Int)), (.int .i64 ((ss.length + R1.length : Nat) : Int))] : List Value).getD z1 undef) z0 else X z0, rfl, HX.out, hT⟩
    refine Owed.next (n := 3) (o := ?o3) ?ho3 ?h3 ?hs3
    case ho3 => rfl
    case h3 =>
      intro l act w1 hw hl hI K hK
      obtain ⟨hc, X, rfl, hX, hT⟩ := hI
      have h2 : X 2 = (.pointer (some ⟨Y + 1, 5, none⟩)) := hX 2 (hw 2 (by kernel_rfl)) (by kernel_rfl)
      have HX := Lib.hid (packsM 3 hX [2] (List.forall_mem_cons.2 ⟨hw 2 (by kernel_rfl), (fun _ h => nomatch h)⟩))
      clear hX
      have kk : w1.cell? ⟨Y + 1, 5, none⟩ = some (.slice (some ⟨b, o, none⟩) 1 cs) := (cell_same (hT.k (Y + 1) q1) 5).trans x1
      rw [h2]
      clear h2
      rw [if_pos (by rfl)]
      go_wp2_with fail
      exact hK.out _ _ ⟨hc.next hw, fun z0 => bif (3 :: [2]).contains z0 then (fun z1 => ([(.pointer (some ⟨bb, 0, none⟩)), (.pointer (some ⟨bb, 0, none⟩)), (.pointer (some ⟨Y + 1, 5, none⟩)), (.slice (some ⟨b, o, none⟩) 1 cs), (.pointer (some ⟨b, o, none⟩)), (.agg #[.int .i64 k, .int .u64 (u 0), .int .u64 (u 1), .int .u64 (u 2), .int .u64 (u 3), .slice p n c]), (.int .i64 t), (.int .i64 F), (.int .i64 t), undef, (.int .i64 ((ss.length + R1.length : Nat) : Int)), (.int .i64 ((ss.length + R1.length : Nat) : Int))] : List Value).getD z1 undef) z0 else X z0, rfl, HX.out, hT⟩
    refine Owed.next (n := 4) (o := ?o4) ?ho4 ?h4 ?hs4
    case ho4 => rfl
    case h4 =>
      intro l act w1 hw hl hI K hK
      obtain ⟨hc, X, rfl, hX, hT⟩ := hI
      have h3 : X 3 = (.slice (some ⟨b, o, none⟩) 1 cs) := hX 3 (hw 3 (by kernel_rfl)) (by kernel_rfl)
      have HX := Lib.hid (packsM 4 hX [3] (List.forall_mem_cons.2 ⟨hw 3 (by kernel_rfl), (fun _ h => nomatch h)⟩))
      clear hX
      rw [h3]
      clear h3
      rw [if_pos (by rfl)]
      go_wp2_with fail
      exact hK.out _ _ ⟨hc.next hw, fun z0 => bif (4 :: [3]).contains z0 then (fun z1 => ([(.pointer (some ⟨bb, 0, none⟩)), (.pointer (some ⟨bb, 0, none⟩)), (.pointer (some ⟨Y + 1, 5, none⟩)), (.slice (some ⟨b, o, none⟩) 1 cs), (.pointer (some ⟨b, o, none⟩)), (.agg #[.int .i64 k, .int .u64 (u 0), .int .u64 (u 1), .int .u64 (u 2), .int .u64 (u 3), .slice p n c]), (.int .i64 t), (.int .i64 F), (.int .i64 t), undef, (.int .i64 ((ss.length + R1.length : Nat) : Int)), (.int .i64 ((ss.length + R1.length : Nat) : Int))] : List Value).getD z1 undef) z0 else X z0, rfl, HX.out, hT⟩
    refine Owed.next (n := 5) (o := ?o5) ?ho5 ?h5 ?hs5
    case ho5 => rfl
    case h5 =>
      intro l act w1 hw hl hI K hK
      obtain ⟨hc, X, rfl, hX, hT⟩ := hI
      have h4 : X 4 = (.pointer (some ⟨b, o, none⟩)) := hX 4 (hw 4 (by kernel_rfl)) (by kernel_rfl)
      have HX := Lib.hid (packsM 5 hX [4] (List.forall_mem_cons.2 ⟨hw 4 (by kernel_rfl), (fun _ h => nomatch h)⟩))
      clear hX
      have dd0 : w1.cell? ⟨b, o, none⟩ = some (.int .i64 k) := (cell_same (hT.k b qb) _).trans (HCL.out 0 _ rfl)
      have dd1 : w1.cell? ⟨b, o + 1, none⟩ = some (.int .u64 (u 0)) := (cell_same (hT.k b qb) _).trans (HCL.out 1 _ rfl)
      have dd2 : w1.cell? ⟨b, o + 2, none⟩ = some (.int .u64 (u 1)) := (cell_same (hT.k b qb) _).trans (HCL.out 2 _ rfl)
      have dd3 : w1.cell? ⟨b, o + 3, none⟩ = some (.int .u64 (u 2)) := (cell_same (hT.k b qb) _).trans (HCL.out 3 _ rfl)
      have dd4 : w1.cell? ⟨b, o + 4, none⟩ = some (.int .u64 (u 3)) := (cell_same (hT.k b qb) _).trans (HCL.out 4 _ rfl)
      have dd5 : w1.cell? ⟨b, o + 5, none⟩ = some (.slice p n c) := (cell_same (hT.k b qb) _).trans (HCL.out 5 _ rfl)
      rw [h4]
      clear h4
      rw [if_pos (by rfl)]
      go_wp2_with fail
      exact hK.out _ _ ⟨hc.next hw, fun z0 => bif (5 :: [4]).contains z0 then (fun z1 => ([(.pointer (some ⟨bb, 0, none⟩)), (.pointer (some ⟨bb, 0, none⟩)), (.pointer (some ⟨Y + 1, 5, none⟩)), (.slice (some ⟨b, o, none⟩) 1 cs), (.pointer (some ⟨b, o, none⟩)), (.agg #[.int .i64 k, .int .u64 (u 0), .int .u64 (u 1), .int .u64 (u 2), .int .u64 (u 3), .slice p n c]), (.int .i64 t), (.int .i64 F), (.int .i64 t), undef, (.int .i64 ((ss.length + R1.length : Nat) : Int)), (.int .i64 ((ss.length + R1.length : Nat) : Int))] : List Value).getD z1 undef) z0 else X z0, rfl, HX.out, hT⟩
    refine Owed.next (n := 6) (o := ?o6) ?ho6 ?h6 ?hs6
    case ho6 => rfl
    case h6 =>
      intro l act w1 hw hl hI K hK
      obtain ⟨hc, X, rfl, hX, hT⟩ := hI
      have HX := Lib.hid (packsM 6 hX [] (fun _ h => nomatch h))
      clear hX
      have kk : w1.cell? ⟨Y + 1 + 1, 0, none⟩ = some (.int .i64 t) := (cell_same (hT.k (Y + 1 + 1) q2) 0).trans x2
      rw [if_pos (by rfl)]
      go_wp2_with fail
      exact hK.out _ _ ⟨hc.next hw, fun z0 => bif (6 :: []).contains z0 then (fun z1 => ([(.pointer (some ⟨bb, 0, none⟩)), (.pointer (some ⟨bb, 0, none⟩)), (.pointer (some ⟨Y + 1, 5, none⟩)), (.slice (some ⟨b, o, none⟩) 1 cs), (.pointer (some ⟨b, o, none⟩)), (.agg #[.int .i64 k, .int .u64 (u 0), .int .u64 (u 1), .int .u64 (u 2), .int .u64 (u 3), .slice p n c]), (.int .i64 t), (.int .i64 F), (.int .i64 t), undef, (.int .i64 ((ss.length + R1.length : Nat) : Int)), (.int .i64 ((ss.length + R1.length : Nat) : Int))] : List Value).getD z1 undef) z0 else X z0, rfl, HX.out, hT⟩
    refine Owed.next (n := 7) (o := ?o7) ?ho7 ?h7 ?hs7
    case ho7 => rfl
    case h7 =>
      intro l act w1 hw hl hI K hK
      obtain ⟨hc, X, rfl, hX, hT⟩ := hI
      have h1 : X 1 = (.pointer (some ⟨bb, 0, none⟩)) := hX 1 (hw 1 (by kernel_rfl)) (by kernel_rfl)
      have h5 : X 5 = (.agg #[.int .i64 k, .int .u64 (u 0), .int .u64 (u 1), .int .u64 (u 2), .int .u64 (u 3), .slice p n c]) := hX 5 (hw 5 (by kernel_rfl)) (by kernel_rfl)
      have h6 : X 6 = (.int .i64 t) := hX 6 (hw 6 (by kernel_rfl)) (by kernel_rfl)
      have HX := Lib.hid (packsM 7 hX [1, 5, 6] (List.forall_mem_cons.2 ⟨hw 1 (by kernel_rfl), (List.forall_mem_cons.2 ⟨hw 5 (by kernel_rfl), (List.forall_mem_cons.2 ⟨hw 6 (by kernel_rfl), (fun _ h => nomatch h)⟩)⟩)⟩))
      clear hX
      have g9 : l 9 = false := hc.not 9 7 hl (by kernel_rfl)
      have g10 : l 10 = false := hc.not 10 9 g9 (by kernel_rfl)
      have hL := IH (b := t) (hT.m0 hl) (by omega) (HRV2.out w1 hT.k)
      unfold LayPost at hL
      rw [HRR.out] at hL
      have HLC := Lib.hid hL
      clear hL
      rw [h1, h5, h6]
      clear h1 h5 h6
      rw [if_pos (by rfl)]
      go_simp
      go_at_call 39
      refine HLC.out.mono ?_
      rintro _ w2 ⟨rfl, hb2, hk2⟩
      exact hK.out _ _ ⟨hc.next hw, fun z0 => bif (7 :: [1, 5, 6]).contains z0 then (fun z1 => ([(.pointer (some ⟨bb, 0, none⟩)), (.pointer (some ⟨bb, 0, none⟩)), (.pointer (some ⟨Y + 1, 5, none⟩)), (.slice (some ⟨b, o, none⟩) 1 cs), (.pointer (some ⟨b, o, none⟩)), (.agg #[.int .i64 k, .int .u64 (u 0), .int .u64 (u 1), .int .u64 (u 2), .int .u64 (u 3), .slice p n c]), (.int .i64 t), (.int .i64 F), (.int .i64 t), undef, (.int .i64 ((ss.length + R1.length : Nat) : Int)), (.int .i64 ((ss.length + R1.length : Nat) : Int))] : List Value).getD z1 undef) z0 else X z0, rfl, HX.out, ms7 hT g9 g10 hb2 hk2⟩
    refine Owed.next (n := 8) (o := ?o8) ?ho8 ?h8 ?hs8
    case ho8 => rfl
    case h8 =>
      intro l act w1 hw hl hI K hK
      obtain ⟨hc, X, rfl, hX, hT⟩ := hI
      have HX := Lib.hid (packsM 8 hX [] (fun _ h => nomatch h))
      clear hX
      have kk : w1.cell? ⟨Y + 1 + 1, 0, none⟩ = some (.int .i64 t) := (cell_same (hT.k (Y + 1 + 1) q2) 0).trans x2
      rw [if_pos (by rfl)]
      go_wp2_with fail
      exact hK.out _ _ ⟨hc.next hw, fun z0 => bif (8 :: []).contains z0 then (fun z1 => ([(.pointer (some ⟨bb, 0, none⟩)), (.pointer (some ⟨bb, 0, none⟩)), (.pointer (some ⟨Y + 1, 5, none⟩)), (.slice (some ⟨b, o, none⟩) 1 cs), (.pointer (some ⟨b, o, none⟩)), (.agg #[.int .i64 k, .int .u64 (u 0), .int .u64 (u 1), .int .u64 (u 2), .int .u64 (u 3), .slice p n c]), (.int .i64 t), (.int .i64 F), (.int .i64 t), undef, (.int .i64 ((ss.length + R1.length : Nat) : Int)), (.int .i64 ((ss.length + R1.length : Nat) : Int))] : List Value).getD z1 undef) z0 else X z0, rfl, HX.out, hT⟩
    refine Owed.next (n := 9) (o := ?o9) ?ho9 ?h9 ?hs9
    case ho9 => rfl
    case h9 =>
      intro l act w1 hw hl hI K hK
      obtain ⟨hc, X, rfl, hX, hT⟩ := hI
      have h7 : X 7 = (.int .i64 F) := hX 7 (hw 7 (by kernel_rfl)) (by kernel_rfl)
      have h8 : X 8 = (.int .i64 t) := hX 8 (hw 8 (by kernel_rfl)) (by kernel_rfl)
      have HX := fun v => Lib.hid (packsN 9 v hX (by kernel_rfl) [7, 8] (List.forall_mem_cons.2 ⟨hw 7 (by kernel_rfl), (List.forall_mem_cons.2 ⟨hw 8 (by kernel_rfl), (fun _ h => nomatch h)⟩)⟩))
      clear hX
      have g7 : l 7 = true := hw 7 (by kernel_rfl)
      have g10 : l 10 = false := hc.not 10 9 hl (by kernel_rfl)
      rw [h7, h8]
      clear h7 h8
      rw [if_pos (by rfl)]
      go_wp2_with fail
      exact hK.out _ _ ⟨hc.next hw, fun z0 => bif [9].contains z0 then (.slice (some ⟨w1.heap.size, 0, none⟩) 2 2) else bif ([7, 8] : List Nat).contains z0 then (fun z1 => ([(.pointer (some ⟨bb, 0, none⟩)), (.pointer (some ⟨bb, 0, none⟩)), (.pointer (some ⟨Y + 1, 5, none⟩)), (.slice (some ⟨b, o, none⟩) 1 cs), (.pointer (some ⟨b, o, none⟩)), (.agg #[.int .i64 k, .int .u64 (u 0), .int .u64 (u 1), .int .u64 (u 2), .int .u64 (u 3), .slice p n c]), (.int .i64 t), (.int .i64 F), (.int .i64 t), undef, (.int .i64 ((ss.length + R1.length : Nat) : Int)), (.int .i64 ((ss.length + R1.length : Nat) : Int))] : List Value).getD z1 undef) z0 else X z0, rfl, (HX _).out, ms9 hT g7 hl g10⟩
    refine Owed.next (n := 10) (o := ?o10) ?ho10 ?h10 ?hs10
    case ho10 => rfl
    case h10 =>
      intro l act w1 hw hl hI K hK
      obtain ⟨hc, X, rfl, hX, hT⟩ := hI
      have h0 : X 0 = (.pointer (some ⟨bb, 0, none⟩)) := hX 0 (hw 0 (by kernel_rfl)) (by kernel_rfl)
      have HX := Lib.hid (packsM 10 hX [0] (List.forall_mem_cons.2 ⟨hw 0 (by kernel_rfl), (fun _ h => nomatch h)⟩))
      clear hX
      have g9 : l 9 = true := hw 9 (by kernel_rfl)
      have g7 : l 7 = true := hc 9 g9 7 (by kernel_rfl)
      obtain ⟨sl5, zs5, g, hB5, hz5, e9, hIV5⟩ := hT.m9 g9 hl
      have hl5 : (ss ++ zs5).length = ss.length + R1.length := by rw [List.length_append, ← hz5]; simp
      rw [e9] at hIV5
      have hF := free_any (fr := [F, t]) (q := some ⟨g, 0, none⟩) (f := 2) hB5 (by rw [hl5]; have := HLL.out; omega) hIV5
      rw [hl5, show ([F, t] : List Int).length = 2 from rfl] at hF
      have HFC := Lib.hid hF
      clear hF
      rw [h0]
      clear h0
      rw [if_pos (by rfl)]
      rw [e9]
      go_simp
      go_at_call 41
      refine HFC.out.mono ?_
      rintro _ w2 ⟨rfl, hb2, hk2⟩
      rw [← e9]
      exact hK.out _ _ ⟨hc.next hw, fun z0 => bif (10 :: [0]).contains z0 then (fun z1 => ([(.pointer (some ⟨bb, 0, none⟩)), (.pointer (some ⟨bb, 0, none⟩)), (.pointer (some ⟨Y + 1, 5, none⟩)), (.slice (some ⟨b, o, none⟩) 1 cs), (.pointer (some ⟨b, o, none⟩)), (.agg #[.int .i64 k, .int .u64 (u 0), .int .u64 (u 1), .int .u64 (u 2), .int .u64 (u 3), .slice p n c]), (.int .i64 t), (.int .i64 F), (.int .i64 t), undef, (.int .i64 ((ss.length + R1.length : Nat) : Int)), (.int .i64 ((ss.length + R1.length : Nat) : Int))] : List Value).getD z1 undef) z0 else X z0, rfl, HX.out, ms10 hT g7 g9 (by obtain ⟨sl6, h6⟩ := hb2; exact ⟨sl6, zs5 ++ [(⟨uZ, -1, [F, t], -1⟩, some ⟨g, 0, none⟩, 2)], by rw [← List.append_assoc]; exact h6, by rw [List.map_append, hz5]; rfl⟩) hk2⟩
    refine Owed.next (n := 11) (o := ?o11) ?ho11 ?h11 ?hs11
    case ho11 => rfl
    case h11 =>
      intro l act w1 hw hl hI K hK
      obtain ⟨hc, X, rfl, hX, hT⟩ := hI
      have h10 : X 10 = (.int .i64 ((ss.length + R1.length : Nat) : Int)) := hX 10 (hw 10 (by kernel_rfl)) (by kernel_rfl)
      have HX := Lib.hid (packsM 11 hX [10] (List.forall_mem_cons.2 ⟨hw 10 (by kernel_rfl), (fun _ h => nomatch h)⟩))
      clear hX
      rw [h10]
      clear h10
      rw [if_pos (by rfl)]
      go_wp2_with fail
      exact hK.out _ _ ⟨hc.next hw, fun z0 => bif (11 :: [10]).contains z0 then (fun z1 => ([(.pointer (some ⟨bb, 0, none⟩)), (.pointer (some ⟨bb, 0, none⟩)), (.pointer (some ⟨Y + 1, 5, none⟩)), (.slice (some ⟨b, o, none⟩) 1 cs), (.pointer (some ⟨b, o, none⟩)), (.agg #[.int .i64 k, .int .u64 (u 0), .int .u64 (u 1), .int .u64 (u 2), .int .u64 (u 3), .slice p n c]), (.int .i64 t), (.int .i64 F), (.int .i64 t), undef, (.int .i64 ((ss.length + R1.length : Nat) : Int)), (.int .i64 ((ss.length + R1.length : Nat) : Int))] : List Value).getD z1 undef) z0 else X z0, rfl, HX.out, hT⟩
    exact Owed.last rfl
  case fin =>
    intro l act w1 hl hI
    obtain ⟨X, rfl, hX, hT⟩ := hI
    have h0 : X 0 = (.pointer (some ⟨bb, 0, none⟩)) := hX 0 (hl 0 (by kernel_rfl)) (by kernel_rfl)
    have h1 : X 1 = (.pointer (some ⟨bb, 0, none⟩)) := hX 1 (hl 1 (by kernel_rfl)) (by kernel_rfl)
    have h2 : X 2 = (.pointer (some ⟨Y + 1, 5, none⟩)) := hX 2 (hl 2 (by kernel_rfl)) (by kernel_rfl)
    have h3 : X 3 = (.slice (some ⟨b, o, none⟩) 1 cs) := hX 3 (hl 3 (by kernel_rfl)) (by kernel_rfl)
    have h4 : X 4 = (.pointer (some ⟨b, o, none⟩)) := hX 4 (hl 4 (by kernel_rfl)) (by kernel_rfl)
    have h5 : X 5 = (.agg #[.int .i64 k, .int .u64 (u 0), .int .u64 (u 1), .int .u64 (u 2), .int .u64 (u 3), .slice p n c]) := hX 5 (hl 5 (by kernel_rfl)) (by kernel_rfl)
    have h6 : X 6 = (.int .i64 t) := hX 6 (hl 6 (by kernel_rfl)) (by kernel_rfl)
    have h7 : X 7 = (.int .i64 F) := hX 7 (hl 7 (by kernel_rfl)) (by kernel_rfl)
    have h8 : X 8 = (.int .i64 t) := hX 8 (hl 8 (by kernel_rfl)) (by kernel_rfl)
    have h10 : X 10 = (.int .i64 ((ss.length + R1.length : Nat) : Int)) := hX 10 (hl 10 (by kernel_rfl)) (by kernel_rfl)
    have h11 : X 11 = (.int .i64 ((ss.length + R1.length : Nat) : Int)) := hX 11 (hl 11 (by kernel_rfl)) (by kernel_rfl)
    rw [h0, h1, h2, h3, h4, h5, h6, h7, h8, h10, h11]
    clear h0 h1 h2 h3 h4 h5 h6 h7 h8 h10 h11 hX

    have f10 := hl 10 (by kernel_rfl)
    rw [f10] at hT
    obtain ⟨sl6, zs6, hB6, hz6⟩ := hT.m10 rfl
    have HB6 := Lib.hid (hB6.less HQS.out)
    have HZ6 := Lib.hid hz6
    have HK6 := Lib.hid fun b (hp : P b) => (hT.k b (HQS.out b hp)).trans (HPK.out b hp)
    clear hT hB6 hz6 f10 hl
    go_wp2_with fail
    go_ret
    exact ⟨rfl, ⟨_, _, HB6.out, HZ6.out⟩, HK6.out⟩
end Go.Proofs.YthglciccejholaaDoor
