/- Package regs: the reader's small steps: what comes next. -/
import Derived.Test.YthglciccejholaaDoorProg
import Derived.Test.YthglciccejholaaDoorV40
import Derived.Test.YthglciccejholaaDoorV9
import Derived.WalkKit
import Derived.WalkLawsBesides
import Derived.WalkSpells
import Derived.Outline
import Derived.Lib.Walk
import Derived.Lib.Hide
import Derived.RegionTactic
import Derived.LoopTactic
import Derived.Below
import Derived.IntWalk
import Derived.Deep.QuietTactic
import Derived.BigQuiet
import Derived.Deep.Cut
import Derived.Deep.CutRange
namespace Go.Proofs.YthglciccejholaaDoor.R5
set_option linter.unusedSimpArgs false
set_option linter.unusedVariables false
set_option maxRecDepth 100000
open Go.RowKit

/-- In reaches: the net, the part. -/
def RS (b A : Nat) (N : Net) (p : Prt) (w0 w : World) : Prop := Nk b N w0 w ∧ w.heap[A]? = some (.cells (prtA p) 96 (0, 0))
theorem RS.up {b A : Nat} {N : Net} {p : Prt} {w0 w w' : World} (h : RS b A N p w0 w) (hb : Below w.heap.size w w') : RS b A N p w0 w' :=
  ⟨h.1.up hb, (hb.block _ (Array.getElem?_eq_some_iff.1 h.2).1).trans h.2⟩
theorem RS.tb {b A : Nat} {N : Net} {p : Prt} {w0 w : World} (h : RS b A N p w0 w) (hb0 : 0 < b) (hb : b < w0.heap.size) (hT : Tb w0) : Tb w := hT.mono (h.1.2.2 0 (by omega) (by omega))
theorem RS.lt {b A : Nat} {N : Net} {p : Prt} {w0 w : World} (h : RS b A N p w0 w) : A < w.heap.size := (Array.getElem?_eq_some_iff.1 h.2).1
theorem RS.f {b A : Nat} {N : Net} {p : Prt} {w0 w : World} (h : RS b A N p w0 w) : w.rangeAt A 1 (spL p.f) := fun j v hv => by
  have hj : j < 8 := (List.getElem?_eq_some_iff.1 hv).1
  rw [cell_of_row w A _ _ 96 (0, 0) h.2, ← hv]; rcases lt8 hj with rfl | rfl | rfl | rfl | rfl | rfl | rfl | rfl <;> rfl
theorem RS.l {b A : Nat} {N : Net} {p : Prt} {w0 w : World} (h : RS b A N p w0 w) : w.rangeAt A 9 (spL p.l) := fun j v hv => by
  have hj : j < 8 := (List.getElem?_eq_some_iff.1 hv).1
  rw [cell_of_row w A _ _ 96 (0, 0) h.2, ← hv]; rcases lt8 hj with rfl | rfl | rfl | rfl | rfl | rfl | rfl | rfl <;> rfl
theorem RS.set {b A G : Nat} {N : Net} {p : Prt} {w0 w : World} (h : RS b A N p w0 w) (hb : b < w0.heap.size) (hA : w0.heap.size = A) (hG : A < G) (vs : List Value) : RS b A N p w0 (w.setCells G 0 vs) :=
  ⟨h.1.set hb (by omega) vs, (setCells_other (by omega) _ _ _).trans h.2⟩
/-- The block that is made in between. -/
def RG (A : Nat) (r : Nat → Bool) (m p : Bool) (x : Value) (w : World) : Prop := m = true → ∃ G, x = .pointer (some ⟨G, 0, none⟩) ∧ A < G ∧ w.heap[G]? = some (.cells (spL (bif p then r else noS)).toArray 90 (0, 0))
theorem RG.up {A : Nat} {r : Nat → Bool} {m p : Bool} {x : Value} {w w' : World} (h : RG A r m p x w) (hb : Below w.heap.size w w') : RG A r m p x w' := fun hm => by
  obtain ⟨G, e, hG, hh⟩ := h hm
  exact ⟨G, e, hG, (hb.block _ (Array.getElem?_eq_some_iff.1 hh).1).trans hh⟩
theorem RG.new {A : Nat} {r : Nat → Bool} {p : Bool} {w : World} (hp : p = false) (hA : A < w.heap.size) : RG A r true p (.pointer (some ⟨w.heap.size, 0, none⟩)) (w.alloc (.cells #[.int .u64 0, .int .u64 0, .int .u64 0, .int .u64 0, .int .u64 0, .int .u64 0, .int .u64 0, .int .u64 0] 90)) := fun _ => by
  subst hp
  refine ⟨_, rfl, hA, ?_⟩
  rw [show (spL (bif false then r else noS)).toArray = (spL noS).toArray from rfl, spL_noS]
  exact heap_alloc_last w _
theorem RG.put {A G : Nat} {r : Nat → Bool} {m : Bool} {x : Value} {w : World} {f : Nat → Bool} (hx : x = .pointer (some ⟨G, 0, none⟩)) (hG : A < G) (h : w.heap[G]? = some (.cells (spL f).toArray 90 (0, 0))) : RG A r m true x (w.setCells G 0 (spL r)) := fun _ =>
  ⟨G, hx, hG, (setCells_heap _ 0 _ _ h).trans (by rw [putA_row]; rfl)⟩
def RL (b A G : Nat) (N : Net) (p : Prt) (s : Nat → Bool) (w0 w : World) : Prop := RS b A N p w0 w ∧ w.heap[G]? = some (.cells (spL s).toArray 90 (0, 0))
theorem RL.up {b A G : Nat} {N : Net} {p : Prt} {s : Nat → Bool} {w0 w w' : World} (h : RL b A G N p s w0 w) (hb : Below w.heap.size w w') : RL b A G N p s w0 w' :=
  ⟨h.1.up hb, (hb.block _ (Array.getElem?_eq_some_iff.1 h.2).1).trans h.2⟩
theorem RL.nk {b A G : Nat} {N : Net} {p : Prt} {s : Nat → Bool} {w0 w w' : World} (h : RL b A G N p s w0 w) (hA : b < A) (hG : b < G) (k : Nk b N w w') : RL b A G N p s w0 w' :=
  ⟨⟨h.1.1.trans k, (k.2.2 A h.1.lt (by omega)).trans h.1.2⟩, (k.2.2 G (Array.getElem?_eq_some_iff.1 h.2).1 (by omega)).trans h.2⟩
theorem RL.put {b A G : Nat} {N : Net} {p : Prt} {s s' : Nat → Bool} {w0 w : World} (h : RL b A G N p s w0 w) (hb : b < w0.heap.size) (hA : w0.heap.size = A) (hG : A < G) : RL b A G N p s' w0 (w.setCells G 0 (spL s')) :=
  ⟨h.1.set hb hA hG _, (setCells_heap _ 0 _ _ h.2).trans (by rw [putA_row])⟩
theorem RL.drew {b A G : Nat} {N : Net} {p : Prt} {s : Nat → Bool} {w0 w : World} (h : RL b A G N p s w0 w) : RL b A G N p s w0 w.drew := ⟨⟨h.1.1.drew, h.1.2⟩, h.2⟩
set_option maxHeartbeats 8000000 in
theorem reaches_any {b : Nat} {N : Net} {w : World} (p : Prt) (c0 : UInt8) (cs : List UInt8) (hnet : w.heap[b]? = some (.cells (netC N) 94 (0, 0))) (hb0 : 0 < b) (hT : Tb w) (hl : cs.length ≤ 100000) :
    Calls Tryd.prog 50 #[.pointer (some ⟨b, 0, none⟩), .agg (prtA p), .string (bs (c0 :: cs))] w fun e w' => e = .returned (.bool (nzS (andS (runS N (andS p.f (N.has c0.toNat)) cs) p.l))) ∧ Nk b N w w' := by
  have hb := (Array.getElem?_eq_some_iff.1 hnet).1
  have S0 : Hid (RS b w.heap.size N p w (w.alloc (.cells (prtA p) 96))) := Lib.hid
    ⟨(Nk.start hnet).up ((Below.refl _ _).alloc (Nat.le_refl _) _), heap_alloc_last w _⟩
  have HT0 := Lib.hid hT
  obtain ⟨R, hR⟩ : ∃ R, nzS (andS (runS N (andS p.f (N.has c0.toNat)) cs) p.l) = R := ⟨_, rfl⟩
  rw [hR]
  have HR := Lib.hid hR
  have hi0 : ∀ x, (Instr.index 9 (.string (bs (c0 :: cs))) (.int .i64 0)).run Tryd.prog x = .ok (.int .u8 (c0.toNat : Nat)) x := run_index_str (c0 :: cs) 0 c0 rfl
  have hc0 := c0.toNat_lt
  have hc0' : ((c0.toNat : Nat) : Int) < 256 := by omega
  clear hnet hT hR
  go_enter Tryd.func50, Tryd.ntmps50
  go_upto_region 1 with fail
  generalize (w.alloc (.cells (prtA p) 96)) = ws at *
  refine wp_region_owed2 (fun l act w1 => ∃ X : Nat → Value, act = ⟨(List.toArray ((Value.pointer (some { block := b, off := 0 })) :: (Value.agg (prtA p)) :: (Value.string (bs (c0 :: cs))) :: undef :: (Value.pointer (some { block := w.heap.size, off := 0 })) :: undef :: (Value.bool false) :: X 10 :: undef :: X 0 :: X 1 :: X 2 :: X 3 :: X 4 :: X 5 :: X 6 :: X 7 :: X 8 :: X 9 :: undef :: undef :: undef :: undef :: undef :: undef :: undef :: undef :: undef :: undef :: undef :: undef :: undef :: undef :: undef :: undef :: undef :: undef :: undef :: undef :: undef :: undef :: undef :: undef :: undef :: undef :: undef :: undef :: undef :: [])), []⟩ ∧ (∀ i, l i = true → ([0, 1, 2, 3, 4, 5, 6, 7, 8, 9] : List Nat).contains i = true → X i = (fun z1 => ([.pointer (some ⟨w.heap.size, 1, none⟩), spV (wf p.f), .pointer (some ⟨b, 0, none⟩), .string (bs (c0 :: cs)), .int .u8 (c0.toNat : Nat), .pointer (some ⟨b, 0, none⟩), (.pointer (some ⟨b, 1, none⟩)), (.pointer (some ⟨b, 1 + c0.toNat * 8, none⟩)), spV (wf (N.has c0.toNat)), spV (wf (andS p.f (N.has c0.toNat))), undef, undef] : List Value).getD z1 undef) i) ∧ (RS b w.heap.size N p w w1 ∧ RG w.heap.size (andS p.f (N.has c0.toNat)) (l 10) (l 11) (X 10) w1)) (by kernel_rfl) (by kernel_rfl) ⟨(fun i => ([undef, undef, undef, undef, undef, undef, undef, undef, undef, undef, undef, undef] : List Value).getD i undef), rfl, (fun i h => by cases h), ⟨⟨S0.out.1.drew, S0.out.2⟩, (fun h => by cases h)⟩⟩ ?st ?fin
  case st =>
    go_light
    refine Owed.next (n := 0) (o := ?o0) ?ho0 ?h0 ?hs0
    case ho0 => rfl
    case h0 =>
      intro l act w1 hw hl hI K hK
      obtain ⟨hc, X, rfl, hX, hT⟩ := hI
      have HX := Lib.hid (packsM 0 hX [] (fun _ h => nomatch h))
      clear hX
      rw [if_pos (by rfl)]
      go_wp2_with fail
      exact hK.out _ _ ⟨hc.next hw, fun z0 => bif (0 :: []).contains z0 then (fun z1 => ([.pointer (some ⟨w.heap.size, 1, none⟩), spV (wf p.f), .pointer (some ⟨b, 0, none⟩), .string (bs (c0 :: cs)), .int .u8 (c0.toNat : Nat), .pointer (some ⟨b, 0, none⟩), (.pointer (some ⟨b, 1, none⟩)), (.pointer (some ⟨b, 1 + c0.toNat * 8, none⟩)), spV (wf (N.has c0.toNat)), spV (wf (andS p.f (N.has c0.toNat))), undef, undef] : List Value).getD z1 undef) z0 else X z0, rfl, HX.out, hT⟩
    refine Owed.next (n := 1) (o := ?o1) ?ho1 ?h1 ?hs1
    case ho1 => rfl
    case h1 =>
      intro l act w1 hw hl hI K hK
      obtain ⟨hc, X, rfl, hX, hT⟩ := hI
      have h0 : X 0 = .pointer (some ⟨w.heap.size, 1, none⟩) := hX 0 (hw 0 (by kernel_rfl)) (by kernel_rfl)
      have HX := Lib.hid (packsM 1 hX [0] (List.forall_mem_cons.2 ⟨hw 0 (by kernel_rfl), (fun _ h => nomatch h)⟩))
      clear hX
      rw [h0]
      clear h0
      rw [if_pos (by rfl)]
      refine wp_load_sp (.tmp 9) rfl w.heap.size 1 rfl p.f hT.1.f ?_
      exact hK.out _ _ ⟨hc.next hw, fun z0 => bif (1 :: [0]).contains z0 then (fun z1 => ([.pointer (some ⟨w.heap.size, 1, none⟩), spV (wf p.f), .pointer (some ⟨b, 0, none⟩), .string (bs (c0 :: cs)), .int .u8 (c0.toNat : Nat), .pointer (some ⟨b, 0, none⟩), (.pointer (some ⟨b, 1, none⟩)), (.pointer (some ⟨b, 1 + c0.toNat * 8, none⟩)), spV (wf (N.has c0.toNat)), spV (wf (andS p.f (N.has c0.toNat))), undef, undef] : List Value).getD z1 undef) z0 else X z0, rfl, HX.out, hT⟩
    refine Owed.next (n := 2) (o := ?o2) ?ho2 ?h2 ?hs2
    case ho2 => rfl
    case h2 =>
      intro l act w1 hw hl hI K hK
      obtain ⟨hc, X, rfl, hX, hT⟩ := hI
      have HX := Lib.hid (packsM 2 hX [] (fun _ h => nomatch h))
      clear hX
      rw [if_pos (by rfl)]
      go_wp2_with fail
      exact hK.out _ _ ⟨hc.next hw, fun z0 => bif (2 :: []).contains z0 then (fun z1 => ([.pointer (some ⟨w.heap.size, 1, none⟩), spV (wf p.f), .pointer (some ⟨b, 0, none⟩), .string (bs (c0 :: cs)), .int .u8 (c0.toNat : Nat), .pointer (some ⟨b, 0, none⟩), (.pointer (some ⟨b, 1, none⟩)), (.pointer (some ⟨b, 1 + c0.toNat * 8, none⟩)), spV (wf (N.has c0.toNat)), spV (wf (andS p.f (N.has c0.toNat))), undef, undef] : List Value).getD z1 undef) z0 else X z0, rfl, HX.out, hT⟩
    refine Owed.next (n := 3) (o := ?o3) ?ho3 ?h3 ?hs3
    case ho3 => rfl
    case h3 =>
      intro l act w1 hw hl hI K hK
      obtain ⟨hc, X, rfl, hX, hT⟩ := hI
      have HX := Lib.hid (packsM 3 hX [] (fun _ h => nomatch h))
      clear hX
      rw [if_pos (by rfl)]
      go_wp2_with fail
      exact hK.out _ _ ⟨hc.next hw, fun z0 => bif (3 :: []).contains z0 then (fun z1 => ([.pointer (some ⟨w.heap.size, 1, none⟩), spV (wf p.f), .pointer (some ⟨b, 0, none⟩), .string (bs (c0 :: cs)), .int .u8 (c0.toNat : Nat), .pointer (some ⟨b, 0, none⟩), (.pointer (some ⟨b, 1, none⟩)), (.pointer (some ⟨b, 1 + c0.toNat * 8, none⟩)), spV (wf (N.has c0.toNat)), spV (wf (andS p.f (N.has c0.toNat))), undef, undef] : List Value).getD z1 undef) z0 else X z0, rfl, HX.out, hT⟩
    refine Owed.next (n := 4) (o := ?o4) ?ho4 ?h4 ?hs4
    case ho4 => rfl
    case h4 =>
      intro l act w1 hw hl hI K hK
      obtain ⟨hc, X, rfl, hX, hT⟩ := hI
      have h3 : X 3 = .string (bs (c0 :: cs)) := hX 3 (hw 3 (by kernel_rfl)) (by kernel_rfl)
      have HX := Lib.hid (packsM 4 hX [3] (List.forall_mem_cons.2 ⟨hw 3 (by kernel_rfl), (fun _ h => nomatch h)⟩))
      clear hX
      rw [h3]
      clear h3
      rw [if_pos (by rfl)]
      go_wp2_with (simp only [hi0])
      exact hK.out _ _ ⟨hc.next hw, fun z0 => bif (4 :: [3]).contains z0 then (fun z1 => ([.pointer (some ⟨w.heap.size, 1, none⟩), spV (wf p.f), .pointer (some ⟨b, 0, none⟩), .string (bs (c0 :: cs)), .int .u8 (c0.toNat : Nat), .pointer (some ⟨b, 0, none⟩), (.pointer (some ⟨b, 1, none⟩)), (.pointer (some ⟨b, 1 + c0.toNat * 8, none⟩)), spV (wf (N.has c0.toNat)), spV (wf (andS p.f (N.has c0.toNat))), undef, undef] : List Value).getD z1 undef) z0 else X z0, rfl, HX.out, hT⟩
    refine Owed.next (n := 5) (o := ?o5) ?ho5 ?h5 ?hs5
    case ho5 => rfl
    case h5 =>
      intro l act w1 hw hl hI K hK
      obtain ⟨hc, X, rfl, hX, hT⟩ := hI
      have h2 : X 2 = .pointer (some ⟨b, 0, none⟩) := hX 2 (hw 2 (by kernel_rfl)) (by kernel_rfl)
      have HX := Lib.hid (packsM 5 hX [2] (List.forall_mem_cons.2 ⟨hw 2 (by kernel_rfl), (fun _ h => nomatch h)⟩))
      clear hX
      rw [h2]
      clear h2
      rw [if_pos (by rfl)]
      go_wp2_with fail
      exact hK.out _ _ ⟨hc.next hw, fun z0 => bif (5 :: [2]).contains z0 then (fun z1 => ([.pointer (some ⟨w.heap.size, 1, none⟩), spV (wf p.f), .pointer (some ⟨b, 0, none⟩), .string (bs (c0 :: cs)), .int .u8 (c0.toNat : Nat), .pointer (some ⟨b, 0, none⟩), (.pointer (some ⟨b, 1, none⟩)), (.pointer (some ⟨b, 1 + c0.toNat * 8, none⟩)), spV (wf (N.has c0.toNat)), spV (wf (andS p.f (N.has c0.toNat))), undef, undef] : List Value).getD z1 undef) z0 else X z0, rfl, HX.out, hT⟩
    refine Owed.next (n := 6) (o := ?o6) ?ho6 ?h6 ?hs6
    case ho6 => rfl
    case h6 =>
      intro l act w1 hw hl hI K hK
      obtain ⟨hc, X, rfl, hX, hT⟩ := hI
      have h5 : X 5 = .pointer (some ⟨b, 0, none⟩) := hX 5 (hw 5 (by kernel_rfl)) (by kernel_rfl)
      have HX := Lib.hid (packsM 6 hX [5] (List.forall_mem_cons.2 ⟨hw 5 (by kernel_rfl), (fun _ h => nomatch h)⟩))
      clear hX
      rw [h5]
      clear h5
      rw [if_pos (by rfl)]
      go_wp2_with fail
      exact hK.out _ _ ⟨hc.next hw, fun z0 => bif (6 :: [5]).contains z0 then (fun z1 => ([.pointer (some ⟨w.heap.size, 1, none⟩), spV (wf p.f), .pointer (some ⟨b, 0, none⟩), .string (bs (c0 :: cs)), .int .u8 (c0.toNat : Nat), .pointer (some ⟨b, 0, none⟩), (.pointer (some ⟨b, 1, none⟩)), (.pointer (some ⟨b, 1 + c0.toNat * 8, none⟩)), spV (wf (N.has c0.toNat)), spV (wf (andS p.f (N.has c0.toNat))), undef, undef] : List Value).getD z1 undef) z0 else X z0, rfl, HX.out, hT⟩
    refine Owed.next (n := 7) (o := ?o7) ?ho7 ?h7 ?hs7
    case ho7 => rfl
    case h7 =>
      intro l act w1 hw hl hI K hK
      obtain ⟨hc, X, rfl, hX, hT⟩ := hI
      have h6 : X 6 = (.pointer (some ⟨b, 1, none⟩)) := hX 6 (hw 6 (by kernel_rfl)) (by kernel_rfl)
      have h4 : X 4 = .int .u8 (c0.toNat : Nat) := hX 4 (hw 4 (by kernel_rfl)) (by kernel_rfl)
      have HX := Lib.hid (packsM 7 hX [6, 4] (List.forall_mem_cons.2 ⟨hw 6 (by kernel_rfl), (List.forall_mem_cons.2 ⟨hw 4 (by kernel_rfl), (fun _ h => nomatch h)⟩)⟩))
      clear hX
      rw [h6, h4]
      clear h6 h4
      rw [if_pos (by rfl)]
      go_wp2_with fail
      exact hK.out _ _ ⟨hc.next hw, fun z0 => bif (7 :: [6, 4]).contains z0 then (fun z1 => ([.pointer (some ⟨w.heap.size, 1, none⟩), spV (wf p.f), .pointer (some ⟨b, 0, none⟩), .string (bs (c0 :: cs)), .int .u8 (c0.toNat : Nat), .pointer (some ⟨b, 0, none⟩), (.pointer (some ⟨b, 1, none⟩)), (.pointer (some ⟨b, 1 + c0.toNat * 8, none⟩)), spV (wf (N.has c0.toNat)), spV (wf (andS p.f (N.has c0.toNat))), undef, undef] : List Value).getD z1 undef) z0 else X z0, rfl, HX.out, hT⟩
    refine Owed.next (n := 8) (o := ?o8) ?ho8 ?h8 ?hs8
    case ho8 => rfl
    case h8 =>
      intro l act w1 hw hl hI K hK
      obtain ⟨hc, X, rfl, hX, hT⟩ := hI
      have h7 : X 7 = (.pointer (some ⟨b, 1 + c0.toNat * 8, none⟩)) := hX 7 (hw 7 (by kernel_rfl)) (by kernel_rfl)
      have HX := Lib.hid (packsM 8 hX [7] (List.forall_mem_cons.2 ⟨hw 7 (by kernel_rfl), (fun _ h => nomatch h)⟩))
      clear hX
      rw [h7]
      clear h7
      rw [if_pos (by rfl)]
      refine wp_load_sp (.tmp 16) rfl b (1 + c0.toNat * 8) rfl (N.has c0.toNat) (hT.1.1.hasAt _ (by omega)) ?_
      exact hK.out _ _ ⟨hc.next hw, fun z0 => bif (8 :: [7]).contains z0 then (fun z1 => ([.pointer (some ⟨w.heap.size, 1, none⟩), spV (wf p.f), .pointer (some ⟨b, 0, none⟩), .string (bs (c0 :: cs)), .int .u8 (c0.toNat : Nat), .pointer (some ⟨b, 0, none⟩), (.pointer (some ⟨b, 1, none⟩)), (.pointer (some ⟨b, 1 + c0.toNat * 8, none⟩)), spV (wf (N.has c0.toNat)), spV (wf (andS p.f (N.has c0.toNat))), undef, undef] : List Value).getD z1 undef) z0 else X z0, rfl, HX.out, hT⟩
    refine Owed.next (n := 9) (o := ?o9) ?ho9 ?h9 ?hs9
    case ho9 => rfl
    case h9 =>
      intro l act w1 hw hl hI K hK
      obtain ⟨hc, X, rfl, hX, hT⟩ := hI
      have h1 : X 1 = spV (wf p.f) := hX 1 (hw 1 (by kernel_rfl)) (by kernel_rfl)
      have h8 : X 8 = spV (wf (N.has c0.toNat)) := hX 8 (hw 8 (by kernel_rfl)) (by kernel_rfl)
      have HX := Lib.hid (packsM 9 hX [1, 8] (List.forall_mem_cons.2 ⟨hw 1 (by kernel_rfl), (List.forall_mem_cons.2 ⟨hw 8 (by kernel_rfl), (fun _ h => nomatch h)⟩)⟩))
      clear hX
      rw [h1, h8]
      clear h1 h8
      rw [if_pos (by rfl)]
      go_wp2_with fail
      refine (both_any _ _ _).mono ?_
      rintro _ w2 ⟨rfl, hb2⟩
      exact hK.out _ _ ⟨hc.next hw, fun z0 => bif (9 :: [1, 8]).contains z0 then (fun z1 => ([.pointer (some ⟨w.heap.size, 1, none⟩), spV (wf p.f), .pointer (some ⟨b, 0, none⟩), .string (bs (c0 :: cs)), .int .u8 (c0.toNat : Nat), .pointer (some ⟨b, 0, none⟩), (.pointer (some ⟨b, 1, none⟩)), (.pointer (some ⟨b, 1 + c0.toNat * 8, none⟩)), spV (wf (N.has c0.toNat)), spV (wf (andS p.f (N.has c0.toNat))), undef, undef] : List Value).getD z1 undef) z0 else X z0, rfl, HX.out, ⟨hT.1.up hb2, hT.2.up hb2⟩⟩
    refine Owed.next (n := 10) (o := ?o10) ?ho10 ?h10 ?hs10
    case ho10 => rfl
    case h10 =>
      intro l act w1 hw hl hI K hK
      obtain ⟨hc, X, rfl, hX, hT⟩ := hI
      have HX := fun v => Lib.hid (packsN 10 v hX (by kernel_rfl) [] (fun _ h => nomatch h))
      clear hX
      have h11 : l 11 = false := by
        cases h : l 11 with
        | false => rfl
        | true =>
          have := hc 11 h 10 (by kernel_rfl)
          rw [hl] at this
          cases this
      rw [if_pos (by rfl)]
      go_wp2_with fail
      exact hK.out _ _ ⟨hc.next hw, fun z0 => bif [10].contains z0 then (.pointer (some ⟨w1.heap.size, 0, none⟩)) else bif ([] : List Nat).contains z0 then (fun z1 => ([.pointer (some ⟨w.heap.size, 1, none⟩), spV (wf p.f), .pointer (some ⟨b, 0, none⟩), .string (bs (c0 :: cs)), .int .u8 (c0.toNat : Nat), .pointer (some ⟨b, 0, none⟩), (.pointer (some ⟨b, 1, none⟩)), (.pointer (some ⟨b, 1 + c0.toNat * 8, none⟩)), spV (wf (N.has c0.toNat)), spV (wf (andS p.f (N.has c0.toNat))), undef, undef] : List Value).getD z1 undef) z0 else X z0, rfl, (HX _).out, ⟨hT.1.up ((Below.refl _ _).alloc (Nat.le_refl _) _), RG.new h11 hT.1.lt⟩⟩
    refine Owed.next (n := 11) (o := ?o11) ?ho11 ?h11 ?hs11
    case ho11 => rfl
    case h11 =>
      intro l act w1 hw hl hI K hK
      obtain ⟨hc, X, rfl, hX, hT⟩ := hI
      have h9 : X 9 = spV (wf (andS p.f (N.has c0.toNat))) := hX 9 (hw 9 (by kernel_rfl)) (by kernel_rfl)
      have HX := fun v => Lib.hid (packsN 11 v hX (by kernel_rfl) [9] (List.forall_mem_cons.2 ⟨hw 9 (by kernel_rfl), (fun _ h => nomatch h)⟩))
      clear hX
      have h10 : l 10 = true := hw 10 (by kernel_rfl)
      obtain ⟨G, hx, hG, hh⟩ := hT.2 h10
      rw [h9]
      clear h9
      rw [if_pos (by rfl)]
      refine wp_store_sp (.tmp 7) (.tmp 18) rfl G 0 (andS p.f (N.has c0.toNat)) hx rfl (row8_there hh) ?_
      exact hK.out _ _ ⟨hc.next hw, fun z0 => bif [11].contains z0 then undef else bif ([9] : List Nat).contains z0 then (fun z1 => ([.pointer (some ⟨w.heap.size, 1, none⟩), spV (wf p.f), .pointer (some ⟨b, 0, none⟩), .string (bs (c0 :: cs)), .int .u8 (c0.toNat : Nat), .pointer (some ⟨b, 0, none⟩), (.pointer (some ⟨b, 1, none⟩)), (.pointer (some ⟨b, 1 + c0.toNat * 8, none⟩)), spV (wf (N.has c0.toNat)), spV (wf (andS p.f (N.has c0.toNat))), undef, undef] : List Value).getD z1 undef) z0 else X z0, rfl, (HX _).out, ⟨hT.1.set hb rfl hG _, RG.put hx hG hh⟩⟩
    exact Owed.last rfl
  case fin =>
    intro l act w1 hl hI
    obtain ⟨X, rfl, hX, hT⟩ := hI
    have h0 : X 0 = .pointer (some ⟨w.heap.size, 1, none⟩) := hX 0 (hl 0 (by kernel_rfl)) (by kernel_rfl)
    have h1 : X 1 = spV (wf p.f) := hX 1 (hl 1 (by kernel_rfl)) (by kernel_rfl)
    have h2 : X 2 = .pointer (some ⟨b, 0, none⟩) := hX 2 (hl 2 (by kernel_rfl)) (by kernel_rfl)
    have h3 : X 3 = .string (bs (c0 :: cs)) := hX 3 (hl 3 (by kernel_rfl)) (by kernel_rfl)
    have h4 : X 4 = .int .u8 (c0.toNat : Nat) := hX 4 (hl 4 (by kernel_rfl)) (by kernel_rfl)
    have h5 : X 5 = .pointer (some ⟨b, 0, none⟩) := hX 5 (hl 5 (by kernel_rfl)) (by kernel_rfl)
    have h6 : X 6 = (.pointer (some ⟨b, 1, none⟩)) := hX 6 (hl 6 (by kernel_rfl)) (by kernel_rfl)
    have h7 : X 7 = (.pointer (some ⟨b, 1 + c0.toNat * 8, none⟩)) := hX 7 (hl 7 (by kernel_rfl)) (by kernel_rfl)
    have h8 : X 8 = spV (wf (N.has c0.toNat)) := hX 8 (hl 8 (by kernel_rfl)) (by kernel_rfl)
    have h9 : X 9 = spV (wf (andS p.f (N.has c0.toNat))) := hX 9 (hl 9 (by kernel_rfl)) (by kernel_rfl)
    rw [h0, h1, h2, h3, h4, h5, h6, h7, h8, h9]
    clear h0 h1 h2 h3 h4 h5 h6 h7 h8 h9 hX
    obtain ⟨G, hx, hG, hh⟩ := hT.2 (hl 10 (by kernel_rfl))
    rw [show l 11 = true from hl 11 (by kernel_rfl)] at hh
    have HL : Hid (RL b w.heap.size G N p (andS p.f (N.has c0.toNat)) w w1) := Lib.hid ⟨hT.1, hh⟩
    rw [hx]
    clear hT hh hl hx X S0 hi0 hc0 hc0'
    have hsz : (bs (c0 :: cs)).size = cs.length + 1 := rfl
    go_wp2_with fail
    go_loopw [8] (fun i wr => ∃ j : Nat, j ≤ cs.length ∧ i = .int .i64 ((j : Int) + 1) ∧ Hid (RL b w.heap.size G N p (runS N (andS p.f (N.has c0.toNat)) (cs.take j)) w wr)) (fun i _ => cs.length + 1 - (intOf i).toNat)
    case atStart => exact ⟨0, by omega, rfl, HL⟩
    case round =>
      obtain ⟨j, hj, rfl, HS⟩ := hrel
      clear HL
      by_cases hlt : j < cs.length
      · have hlt' : (j : Int) + 1 < ((cs.length : Nat) : Int) + 1 := by omega
        obtain ⟨s, hs⟩ : ∃ s, runS N (andS p.f (N.has c0.toNat)) (cs.take j) = s := ⟨_, rfl⟩
        rw [hs] at HS
        go_upto_region 3 with fail
        refine wp_region_list ?_
        refine wpList_plain rfl fun K hK => ?_
        have hK2 := Lib.hid hK
        clear hK
        go_wp2_with fail
        refine hK2.out _ _ ?_
        clear hK2 K
        refine wpList_plain rfl fun K hK => ?_
        have hK2 := Lib.hid hK
        clear hK
        go_wp2_with fail
        refine hK2.out _ _ ?_
        clear hK2 K
        refine wpList_plain rfl fun K hK => ?_
        have hK2 := Lib.hid hK
        clear hK
        go_wp2_with fail
        refine hK2.out _ _ ?_
        clear hK2 K
        refine wpList_plain rfl fun K hK => ?_
        have hK2 := Lib.hid hK
        clear hK
        go_wp2_with fail
        refine hK2.out _ _ ?_
        clear hK2 K
        refine wpList_plain rfl fun K hK => ?_
        have hK2 := Lib.hid hK
        clear hK
        go_wp2_with fail
        refine hK2.out _ _ ?_
        clear hK2 K
        refine wpList_step fun K hK => ?_
        rw [if_pos (by rfl)]
        refine wp_load_sp (.tmp 7) rfl G 0 rfl s (row8_range HS.out.2) (hK _ _ ?_)
        simp only [Act.put, List.setIfInBounds_toArray, List.set_cons_succ, List.set_cons_zero]
        refine wpList_step fun K hK => ?_
        rw [if_pos (by rfl)]
        have hK2 := Lib.hid hK
        clear hK
        go_wp2_with fail
        refine hK2.out _ _ ?_
        clear hK2 K
        refine wpList_step fun K hK => ?_
        rw [if_pos (by rfl)]
        refine wp_neq64 (.tmp 24) (.tmp 25) 90 rfl s rfl rfl (hK _ _ ?_)
        simp only [Act.put, List.setIfInBounds_toArray, List.set_cons_succ, List.set_cons_zero]
        cases hz : nzS s with
        | false =>
          have HF : Hid (nzS (andS s p.l) = R) := Lib.hid (by
            rw [← HR.out, nz_and hz]
            refine (nz_and ?_).symm
            rw [show cs = cs.take j ++ cs.drop j from (List.take_append_drop j cs).symm, runS_app, hs]
            exact runS_none N _ _ hz)
          have HE := Lib.hid (both_any s p.l)
          go_upto_region 6 with fail
          refine wp_region_list ?_
          refine wpList_plain rfl fun K hK => wp_load_sp (.tmp 7) rfl G 0 rfl s (row8_range HS.out.2) (hK _ _ ?_)
          simp only [Act.put, List.setIfInBounds_toArray, List.set_cons_succ, List.set_cons_zero]
          refine wpList_plain rfl fun K hK => ?_
          have hK2 := Lib.hid hK
          clear hK
          go_wp2_with fail
          refine hK2.out _ _ ?_
          clear hK2 K
          refine wpList_plain rfl fun K hK => wp_load_sp (.tmp 43) rfl w.heap.size 9 rfl p.l (HS.out.1.l) (hK _ _ ?_)
          simp only [Act.put, List.setIfInBounds_toArray, List.set_cons_succ, List.set_cons_zero]
          refine wpList_plain rfl fun K hK => ?_
          have hK2 := Lib.hid hK
          clear hK
          go_wp2_with fail
          refine (HE.out _).mono ?_
          rintro _ x2 ⟨rfl, hb2⟩
          refine hK2.out _ _ ?_
          clear hK2 K
          have HK := Lib.hid (HS.out.1.1.up hb2)
          clear hb2 HE
          refine wpList_plain rfl fun K hK => ?_
          have hK2 := Lib.hid hK
          clear hK
          go_wp2_with fail
          refine hK2.out _ _ ?_
          clear hK2 K
          refine wpList_plain rfl fun K hK => wp_neq64 (.tmp 45) (.tmp 46) 90 rfl (andS s p.l) rfl rfl (hK _ _ ?_)
          simp only [Act.put, List.setIfInBounds_toArray, List.set_cons_succ, List.set_cons_zero]
          rw [HF.out]
          refine wpList_plain rfl fun K hK => ?_
          have hK2 := Lib.hid hK
          clear hK
          go_wp2_with fail
          refine hK2.out _ _ ?_
          clear hK2 K
          refine wpList_nil ?_
          go_wp2_with fail
          go_ret
          exact ⟨rfl, HK.out⟩
        | true =>
          have htk := runS_take N cs (andS p.f (N.has c0.toNat)) j hlt
          rw [hs] at htk
          have hij : ∀ x, (Instr.index 9 (.string (bs (c0 :: cs))) (.int .i64 ((j : Int) + 1))).run Tryd.prog x = .ok (.int .u8 (cs[j].toNat : Nat)) x := fun x => by
            have := run_index_str (c0 :: cs) (j + 1) cs[j] (by simp [hlt]) x
            simpa using this
          obtain ⟨c, hc⟩ : ∃ c, cs[j] = c := ⟨_, rfl⟩
          rw [hc] at htk hij
          have HTK := Lib.hid htk
          have hcl := c.toNat_lt
          have hcl' : ((c.toNat : Nat) : Int) < 256 := by omega
          clear htk hc hs hz
          go_upto_region 5 with fail
          refine wp_region_owed2 (fun l act w1 => ∃ X : Nat → Value, act = ⟨(List.toArray ((Value.pointer (some { block := b, off := 0 })) :: (Value.agg (prtA p)) :: (Value.string (bs (c0 :: cs))) :: undef :: (Value.pointer (some { block := w.heap.size, off := 0 })) :: undef :: (Value.bool false) :: (Value.pointer (some { block := G, off := 0 })) :: (Value.int IntKind.i64 (↑j + 1)) :: (Value.pointer (some { block := w.heap.size, off := 1 })) :: (spV (wf p.f)) :: (Value.pointer (some { block := b, off := 0 })) :: (Value.string (bs (c0 :: cs))) :: (Value.int IntKind.u8 ↑c0.toNat) :: (Value.pointer (some { block := b, off := 0 })) :: (Value.pointer (some { block := b, off := 1 })) :: (Value.pointer (some { block := b, off := 1 + c0.toNat * 8 })) :: (spV (wf (N.has c0.toNat))) :: (spV (wf (andS p.f (N.has c0.toNat)))) :: (Value.int IntKind.i64 (↑j + 1)) :: (Value.string (bs (c0 :: cs))) :: (Value.int IntKind.i64 (↑cs.length + 1)) :: (Value.bool true) :: (Value.bool true) :: (spV (wf s)) :: (Value.agg #[Value.int IntKind.u64 0, Value.int IntKind.u64 0, Value.int IntKind.u64 0, Value.int IntKind.u64 0, Value.int IntKind.u64 0, Value.int IntKind.u64 0, Value.int IntKind.u64 0, Value.int IntKind.u64 0]) :: (Value.bool true) :: (Value.bool true) :: (u28) :: (u29) :: X 0 :: X 1 :: X 2 :: X 3 :: X 4 :: X 5 :: X 6 :: X 7 :: X 8 :: X 9 :: X 10 :: X 11 :: undef :: undef :: undef :: undef :: undef :: undef :: [])), []⟩ ∧ (∀ i, l i = true → ([0, 1, 2, 3, 4, 5, 6, 7, 8, 9, 10, 11] : List Nat).contains i = true → X i = (fun z1 => ([.pointer (some ⟨b, 0, none⟩), spV (wf s), spV (wf (nxS N s)), .pointer (some ⟨b, 0, none⟩), .string (bs (c0 :: cs)), .int .i64 ((j : Int) + 1), .int .u8 (c.toNat : Nat), .pointer (some ⟨b, 0, none⟩), (.pointer (some ⟨b, 1, none⟩)), (.pointer (some ⟨b, 1 + c.toNat * 8, none⟩)), spV (wf (N.has c.toNat)), spV (wf (andS (nxS N s) (N.has c.toNat))), undef] : List Value).getD z1 undef) i) ∧ RL b w.heap.size G N p (bif l 12 then (andS (nxS N s) (N.has c.toNat)) else s) w w1) (by kernel_rfl) (by kernel_rfl) ⟨(fun i => ([(u30), (u31), (u32), (u33), (u34), (u35), (u36), (u37), (u38), (u39), (u40), (u41), undef] : List Value).getD i undef), rfl, (fun i h => by cases h), HS.out.drew⟩ ?stq ?finq
          case stq =>
            go_light
            refine Owed.next (n := 0) (o := ?oq0) ?hoq0 ?hq0 ?hsq0
            case hoq0 => rfl
            case hq0 =>
              intro l act w1 hw hl hI K hK
              obtain ⟨hc, X, rfl, hX, hT⟩ := hI
              have HX := Lib.hid (packsM 0 hX [] (fun _ h => nomatch h))
              clear hX
              rw [if_pos (by rfl)]
              go_wp2_with fail
              exact hK.out _ _ ⟨hc.next hw, fun z0 => bif (0 :: []).contains z0 then (fun z1 => ([.pointer (some ⟨b, 0, none⟩), spV (wf s), spV (wf (nxS N s)), .pointer (some ⟨b, 0, none⟩), .string (bs (c0 :: cs)), .int .i64 ((j : Int) + 1), .int .u8 (c.toNat : Nat), .pointer (some ⟨b, 0, none⟩), (.pointer (some ⟨b, 1, none⟩)), (.pointer (some ⟨b, 1 + c.toNat * 8, none⟩)), spV (wf (N.has c.toNat)), spV (wf (andS (nxS N s) (N.has c.toNat))), undef] : List Value).getD z1 undef) z0 else X z0, rfl, HX.out, hT⟩
            refine Owed.next (n := 1) (o := ?oq1) ?hoq1 ?hq1 ?hsq1
            case hoq1 => rfl
            case hq1 =>
              intro l act w1 hw hl hI K hK
              obtain ⟨hc, X, rfl, hX, hT⟩ := hI
              have HX := Lib.hid (packsM 1 hX [] (fun _ h => nomatch h))
              clear hX
              have h12 : l 12 = false := by
                cases h : l 12 with
                | false => rfl
                | true =>
                  have := hc 2 (hc 11 (hc 12 h 11 (by kernel_rfl)) 2 (by kernel_rfl)) 1 (by kernel_rfl)
                  rw [hl] at this
                  cases this
              have hT0 := hT
              rw [h12] at hT0
              rw [if_pos (by rfl)]
              refine wp_load_sp (.tmp 7) rfl G 0 rfl s (row8_range hT0.2) ?_
              exact hK.out _ _ ⟨hc.next hw, fun z0 => bif (1 :: []).contains z0 then (fun z1 => ([.pointer (some ⟨b, 0, none⟩), spV (wf s), spV (wf (nxS N s)), .pointer (some ⟨b, 0, none⟩), .string (bs (c0 :: cs)), .int .i64 ((j : Int) + 1), .int .u8 (c.toNat : Nat), .pointer (some ⟨b, 0, none⟩), (.pointer (some ⟨b, 1, none⟩)), (.pointer (some ⟨b, 1 + c.toNat * 8, none⟩)), spV (wf (N.has c.toNat)), spV (wf (andS (nxS N s) (N.has c.toNat))), undef] : List Value).getD z1 undef) z0 else X z0, rfl, HX.out, hT⟩
            refine Owed.next (n := 2) (o := ?oq2) ?hoq2 ?hq2 ?hsq2
            case hoq2 => rfl
            case hq2 =>
              intro l act w1 hw hl hI K hK
              obtain ⟨hc, X, rfl, hX, hT⟩ := hI
              have h0 : X 0 = .pointer (some ⟨b, 0, none⟩) := hX 0 (hw 0 (by kernel_rfl)) (by kernel_rfl)
              have h1 : X 1 = spV (wf s) := hX 1 (hw 1 (by kernel_rfl)) (by kernel_rfl)
              have HX := Lib.hid (packsM 2 hX [0, 1] (List.forall_mem_cons.2 ⟨hw 0 (by kernel_rfl), (List.forall_mem_cons.2 ⟨hw 1 (by kernel_rfl), (fun _ h => nomatch h)⟩)⟩))
              clear hX
              rw [h0, h1]
              clear h0 h1
              rw [if_pos (by rfl)]
              go_wp2_with fail
              refine (nextS_any s hT.1.1.1 hb0 (hT.1.tb hb0 hb HT0.out)).mono ?_
              rintro _ w2 ⟨rfl, hk⟩
              exact hK.out _ _ ⟨hc.next hw, fun z0 => bif (2 :: [0, 1]).contains z0 then (fun z1 => ([.pointer (some ⟨b, 0, none⟩), spV (wf s), spV (wf (nxS N s)), .pointer (some ⟨b, 0, none⟩), .string (bs (c0 :: cs)), .int .i64 ((j : Int) + 1), .int .u8 (c.toNat : Nat), .pointer (some ⟨b, 0, none⟩), (.pointer (some ⟨b, 1, none⟩)), (.pointer (some ⟨b, 1 + c.toNat * 8, none⟩)), spV (wf (N.has c.toNat)), spV (wf (andS (nxS N s) (N.has c.toNat))), undef] : List Value).getD z1 undef) z0 else X z0, rfl, HX.out, hT.nk hb (by omega) hk⟩
            refine Owed.next (n := 3) (o := ?oq3) ?hoq3 ?hq3 ?hsq3
            case hoq3 => rfl
            case hq3 =>
              intro l act w1 hw hl hI K hK
              obtain ⟨hc, X, rfl, hX, hT⟩ := hI
              have HX := Lib.hid (packsM 3 hX [] (fun _ h => nomatch h))
              clear hX
              rw [if_pos (by rfl)]
              go_wp2_with fail
              exact hK.out _ _ ⟨hc.next hw, fun z0 => bif (3 :: []).contains z0 then (fun z1 => ([.pointer (some ⟨b, 0, none⟩), spV (wf s), spV (wf (nxS N s)), .pointer (some ⟨b, 0, none⟩), .string (bs (c0 :: cs)), .int .i64 ((j : Int) + 1), .int .u8 (c.toNat : Nat), .pointer (some ⟨b, 0, none⟩), (.pointer (some ⟨b, 1, none⟩)), (.pointer (some ⟨b, 1 + c.toNat * 8, none⟩)), spV (wf (N.has c.toNat)), spV (wf (andS (nxS N s) (N.has c.toNat))), undef] : List Value).getD z1 undef) z0 else X z0, rfl, HX.out, hT⟩
            refine Owed.next (n := 4) (o := ?oq4) ?hoq4 ?hq4 ?hsq4
            case hoq4 => rfl
            case hq4 =>
              intro l act w1 hw hl hI K hK
              obtain ⟨hc, X, rfl, hX, hT⟩ := hI
              have HX := Lib.hid (packsM 4 hX [] (fun _ h => nomatch h))
              clear hX
              rw [if_pos (by rfl)]
              go_wp2_with fail
              exact hK.out _ _ ⟨hc.next hw, fun z0 => bif (4 :: []).contains z0 then (fun z1 => ([.pointer (some ⟨b, 0, none⟩), spV (wf s), spV (wf (nxS N s)), .pointer (some ⟨b, 0, none⟩), .string (bs (c0 :: cs)), .int .i64 ((j : Int) + 1), .int .u8 (c.toNat : Nat), .pointer (some ⟨b, 0, none⟩), (.pointer (some ⟨b, 1, none⟩)), (.pointer (some ⟨b, 1 + c.toNat * 8, none⟩)), spV (wf (N.has c.toNat)), spV (wf (andS (nxS N s) (N.has c.toNat))), undef] : List Value).getD z1 undef) z0 else X z0, rfl, HX.out, hT⟩
            refine Owed.next (n := 5) (o := ?oq5) ?hoq5 ?hq5 ?hsq5
            case hoq5 => rfl
            case hq5 =>
              intro l act w1 hw hl hI K hK
              obtain ⟨hc, X, rfl, hX, hT⟩ := hI
              have HX := Lib.hid (packsM 5 hX [] (fun _ h => nomatch h))
              clear hX
              rw [if_pos (by rfl)]
              go_wp2_with fail
              exact hK.out _ _ ⟨hc.next hw, fun z0 => bif (5 :: []).contains z0 then (fun z1 => ([.pointer (some ⟨b, 0, none⟩), spV (wf s), spV (wf (nxS N s)), .pointer (some ⟨b, 0, none⟩), .string (bs (c0 :: cs)), .int .i64 ((j : Int) + 1), .int .u8 (c.toNat : Nat), .pointer (some ⟨b, 0, none⟩), (.pointer (some ⟨b, 1, none⟩)), (.pointer (some ⟨b, 1 + c.toNat * 8, none⟩)), spV (wf (N.has c.toNat)), spV (wf (andS (nxS N s) (N.has c.toNat))), undef] : List Value).getD z1 undef) z0 else X z0, rfl, HX.out, hT⟩
            refine Owed.next (n := 6) (o := ?oq6) ?hoq6 ?hq6 ?hsq6
            case hoq6 => rfl
            case hq6 =>
              intro l act w1 hw hl hI K hK
              obtain ⟨hc, X, rfl, hX, hT⟩ := hI
              have h4 : X 4 = .string (bs (c0 :: cs)) := hX 4 (hw 4 (by kernel_rfl)) (by kernel_rfl)
              have h5 : X 5 = .int .i64 ((j : Int) + 1) := hX 5 (hw 5 (by kernel_rfl)) (by kernel_rfl)
              have HX := Lib.hid (packsM 6 hX [4, 5] (List.forall_mem_cons.2 ⟨hw 4 (by kernel_rfl), (List.forall_mem_cons.2 ⟨hw 5 (by kernel_rfl), (fun _ h => nomatch h)⟩)⟩))
              clear hX
              rw [h4, h5]
              clear h4 h5
              rw [if_pos (by rfl)]
              go_wp2_with (simp only [hij])
              exact hK.out _ _ ⟨hc.next hw, fun z0 => bif (6 :: [4, 5]).contains z0 then (fun z1 => ([.pointer (some ⟨b, 0, none⟩), spV (wf s), spV (wf (nxS N s)), .pointer (some ⟨b, 0, none⟩), .string (bs (c0 :: cs)), .int .i64 ((j : Int) + 1), .int .u8 (c.toNat : Nat), .pointer (some ⟨b, 0, none⟩), (.pointer (some ⟨b, 1, none⟩)), (.pointer (some ⟨b, 1 + c.toNat * 8, none⟩)), spV (wf (N.has c.toNat)), spV (wf (andS (nxS N s) (N.has c.toNat))), undef] : List Value).getD z1 undef) z0 else X z0, rfl, HX.out, hT⟩
            refine Owed.next (n := 7) (o := ?oq7) ?hoq7 ?hq7 ?hsq7
            case hoq7 => rfl
            case hq7 =>
              intro l act w1 hw hl hI K hK
              obtain ⟨hc, X, rfl, hX, hT⟩ := hI
              have h3 : X 3 = .pointer (some ⟨b, 0, none⟩) := hX 3 (hw 3 (by kernel_rfl)) (by kernel_rfl)
              have HX := Lib.hid (packsM 7 hX [3] (List.forall_mem_cons.2 ⟨hw 3 (by kernel_rfl), (fun _ h => nomatch h)⟩))
              clear hX
              rw [h3]
              clear h3
              rw [if_pos (by rfl)]
              go_wp2_with fail
              exact hK.out _ _ ⟨hc.next hw, fun z0 => bif (7 :: [3]).contains z0 then (fun z1 => ([.pointer (some ⟨b, 0, none⟩), spV (wf s), spV (wf (nxS N s)), .pointer (some ⟨b, 0, none⟩), .string (bs (c0 :: cs)), .int .i64 ((j : Int) + 1), .int .u8 (c.toNat : Nat), .pointer (some ⟨b, 0, none⟩), (.pointer (some ⟨b, 1, none⟩)), (.pointer (some ⟨b, 1 + c.toNat * 8, none⟩)), spV (wf (N.has c.toNat)), spV (wf (andS (nxS N s) (N.has c.toNat))), undef] : List Value).getD z1 undef) z0 else X z0, rfl, HX.out, hT⟩
            refine Owed.next (n := 8) (o := ?oq8) ?hoq8 ?hq8 ?hsq8
            case hoq8 => rfl
            case hq8 =>
              intro l act w1 hw hl hI K hK
              obtain ⟨hc, X, rfl, hX, hT⟩ := hI
              have h7 : X 7 = .pointer (some ⟨b, 0, none⟩) := hX 7 (hw 7 (by kernel_rfl)) (by kernel_rfl)
              have HX := Lib.hid (packsM 8 hX [7] (List.forall_mem_cons.2 ⟨hw 7 (by kernel_rfl), (fun _ h => nomatch h)⟩))
              clear hX
              rw [h7]
              clear h7
              rw [if_pos (by rfl)]
              go_wp2_with fail
              exact hK.out _ _ ⟨hc.next hw, fun z0 => bif (8 :: [7]).contains z0 then (fun z1 => ([.pointer (some ⟨b, 0, none⟩), spV (wf s), spV (wf (nxS N s)), .pointer (some ⟨b, 0, none⟩), .string (bs (c0 :: cs)), .int .i64 ((j : Int) + 1), .int .u8 (c.toNat : Nat), .pointer (some ⟨b, 0, none⟩), (.pointer (some ⟨b, 1, none⟩)), (.pointer (some ⟨b, 1 + c.toNat * 8, none⟩)), spV (wf (N.has c.toNat)), spV (wf (andS (nxS N s) (N.has c.toNat))), undef] : List Value).getD z1 undef) z0 else X z0, rfl, HX.out, hT⟩
            refine Owed.next (n := 9) (o := ?oq9) ?hoq9 ?hq9 ?hsq9
            case hoq9 => rfl
            case hq9 =>
              intro l act w1 hw hl hI K hK
              obtain ⟨hc, X, rfl, hX, hT⟩ := hI
              have h8 : X 8 = (.pointer (some ⟨b, 1, none⟩)) := hX 8 (hw 8 (by kernel_rfl)) (by kernel_rfl)
              have h6 : X 6 = .int .u8 (c.toNat : Nat) := hX 6 (hw 6 (by kernel_rfl)) (by kernel_rfl)
              have HX := Lib.hid (packsM 9 hX [8, 6] (List.forall_mem_cons.2 ⟨hw 8 (by kernel_rfl), (List.forall_mem_cons.2 ⟨hw 6 (by kernel_rfl), (fun _ h => nomatch h)⟩)⟩))
              clear hX
              rw [h8, h6]
              clear h8 h6
              rw [if_pos (by rfl)]
              go_wp2_with fail
              exact hK.out _ _ ⟨hc.next hw, fun z0 => bif (9 :: [8, 6]).contains z0 then (fun z1 => ([.pointer (some ⟨b, 0, none⟩), spV (wf s), spV (wf (nxS N s)), .pointer (some ⟨b, 0, none⟩), .string (bs (c0 :: cs)), .int .i64 ((j : Int) + 1), .int .u8 (c.toNat : Nat), .pointer (some ⟨b, 0, none⟩), (.pointer (some ⟨b, 1, none⟩)), (.pointer (some ⟨b, 1 + c.toNat * 8, none⟩)), spV (wf (N.has c.toNat)), spV (wf (andS (nxS N s) (N.has c.toNat))), undef] : List Value).getD z1 undef) z0 else X z0, rfl, HX.out, hT⟩
            refine Owed.next (n := 10) (o := ?oq10) ?hoq10 ?hq10 ?hsq10
            case hoq10 => rfl
            case hq10 =>
              intro l act w1 hw hl hI K hK
              obtain ⟨hc, X, rfl, hX, hT⟩ := hI
              have h9 : X 9 = (.pointer (some ⟨b, 1 + c.toNat * 8, none⟩)) := hX 9 (hw 9 (by kernel_rfl)) (by kernel_rfl)
              have HX := Lib.hid (packsM 10 hX [9] (List.forall_mem_cons.2 ⟨hw 9 (by kernel_rfl), (fun _ h => nomatch h)⟩))
              clear hX
              rw [h9]
              clear h9
              rw [if_pos (by rfl)]
              refine wp_load_sp (.tmp 39) rfl b (1 + c.toNat * 8) rfl (N.has c.toNat) (hT.1.1.hasAt _ (by omega)) ?_
              exact hK.out _ _ ⟨hc.next hw, fun z0 => bif (10 :: [9]).contains z0 then (fun z1 => ([.pointer (some ⟨b, 0, none⟩), spV (wf s), spV (wf (nxS N s)), .pointer (some ⟨b, 0, none⟩), .string (bs (c0 :: cs)), .int .i64 ((j : Int) + 1), .int .u8 (c.toNat : Nat), .pointer (some ⟨b, 0, none⟩), (.pointer (some ⟨b, 1, none⟩)), (.pointer (some ⟨b, 1 + c.toNat * 8, none⟩)), spV (wf (N.has c.toNat)), spV (wf (andS (nxS N s) (N.has c.toNat))), undef] : List Value).getD z1 undef) z0 else X z0, rfl, HX.out, hT⟩
            refine Owed.next (n := 11) (o := ?oq11) ?hoq11 ?hq11 ?hsq11
            case hoq11 => rfl
            case hq11 =>
              intro l act w1 hw hl hI K hK
              obtain ⟨hc, X, rfl, hX, hT⟩ := hI
              have h2 : X 2 = spV (wf (nxS N s)) := hX 2 (hw 2 (by kernel_rfl)) (by kernel_rfl)
              have h10 : X 10 = spV (wf (N.has c.toNat)) := hX 10 (hw 10 (by kernel_rfl)) (by kernel_rfl)
              have HX := Lib.hid (packsM 11 hX [2, 10] (List.forall_mem_cons.2 ⟨hw 2 (by kernel_rfl), (List.forall_mem_cons.2 ⟨hw 10 (by kernel_rfl), (fun _ h => nomatch h)⟩)⟩))
              clear hX
              rw [h2, h10]
              clear h2 h10
              rw [if_pos (by rfl)]
              go_wp2_with fail
              refine (both_any _ _ _).mono ?_
              rintro _ w2 ⟨rfl, hb2⟩
              exact hK.out _ _ ⟨hc.next hw, fun z0 => bif (11 :: [2, 10]).contains z0 then (fun z1 => ([.pointer (some ⟨b, 0, none⟩), spV (wf s), spV (wf (nxS N s)), .pointer (some ⟨b, 0, none⟩), .string (bs (c0 :: cs)), .int .i64 ((j : Int) + 1), .int .u8 (c.toNat : Nat), .pointer (some ⟨b, 0, none⟩), (.pointer (some ⟨b, 1, none⟩)), (.pointer (some ⟨b, 1 + c.toNat * 8, none⟩)), spV (wf (N.has c.toNat)), spV (wf (andS (nxS N s) (N.has c.toNat))), undef] : List Value).getD z1 undef) z0 else X z0, rfl, HX.out, hT.up hb2⟩
            refine Owed.next (n := 12) (o := ?oq12) ?hoq12 ?hq12 ?hsq12
            case hoq12 => rfl
            case hq12 =>
              intro l act w1 hw hl hI K hK
              obtain ⟨hc, X, rfl, hX, hT⟩ := hI
              have h11 : X 11 = spV (wf (andS (nxS N s) (N.has c.toNat))) := hX 11 (hw 11 (by kernel_rfl)) (by kernel_rfl)
              have HX := fun v => Lib.hid (packsN 12 v hX (by kernel_rfl) [11] (List.forall_mem_cons.2 ⟨hw 11 (by kernel_rfl), (fun _ h => nomatch h)⟩))
              clear hX
              rw [h11]
              clear h11
              rw [if_pos (by rfl)]
              have h12 : l 12 = false := hl
              have hT0 := hT
              rw [h12] at hT0
              refine wp_store_sp (.tmp 7) (.tmp 41) rfl G 0 (andS (nxS N s) (N.has c.toNat)) rfl rfl (row8_there hT0.2) ?_
              exact hK.out _ _ ⟨hc.next hw, fun z0 => bif [12].contains z0 then undef else bif ([11] : List Nat).contains z0 then (fun z1 => ([.pointer (some ⟨b, 0, none⟩), spV (wf s), spV (wf (nxS N s)), .pointer (some ⟨b, 0, none⟩), .string (bs (c0 :: cs)), .int .i64 ((j : Int) + 1), .int .u8 (c.toNat : Nat), .pointer (some ⟨b, 0, none⟩), (.pointer (some ⟨b, 1, none⟩)), (.pointer (some ⟨b, 1 + c.toNat * 8, none⟩)), spV (wf (N.has c.toNat)), spV (wf (andS (nxS N s) (N.has c.toNat))), undef] : List Value).getD z1 undef) z0 else X z0, rfl, (HX _).out, hT0.put hb rfl hG⟩
            exact Owed.last rfl
          case finq =>
            intro l act w1 hl hI
            obtain ⟨X, rfl, hX, hT⟩ := hI
            have h0 : X 0 = .pointer (some ⟨b, 0, none⟩) := hX 0 (hl 0 (by kernel_rfl)) (by kernel_rfl)
            have h1 : X 1 = spV (wf s) := hX 1 (hl 1 (by kernel_rfl)) (by kernel_rfl)
            have h2 : X 2 = spV (wf (nxS N s)) := hX 2 (hl 2 (by kernel_rfl)) (by kernel_rfl)
            have h3 : X 3 = .pointer (some ⟨b, 0, none⟩) := hX 3 (hl 3 (by kernel_rfl)) (by kernel_rfl)
            have h4 : X 4 = .string (bs (c0 :: cs)) := hX 4 (hl 4 (by kernel_rfl)) (by kernel_rfl)
            have h5 : X 5 = .int .i64 ((j : Int) + 1) := hX 5 (hl 5 (by kernel_rfl)) (by kernel_rfl)
            have h6 : X 6 = .int .u8 (c.toNat : Nat) := hX 6 (hl 6 (by kernel_rfl)) (by kernel_rfl)
            have h7 : X 7 = .pointer (some ⟨b, 0, none⟩) := hX 7 (hl 7 (by kernel_rfl)) (by kernel_rfl)
            have h8 : X 8 = (.pointer (some ⟨b, 1, none⟩)) := hX 8 (hl 8 (by kernel_rfl)) (by kernel_rfl)
            have h9 : X 9 = (.pointer (some ⟨b, 1 + c.toNat * 8, none⟩)) := hX 9 (hl 9 (by kernel_rfl)) (by kernel_rfl)
            have h10 : X 10 = spV (wf (N.has c.toNat)) := hX 10 (hl 10 (by kernel_rfl)) (by kernel_rfl)
            have h11 : X 11 = spV (wf (andS (nxS N s) (N.has c.toNat))) := hX 11 (hl 11 (by kernel_rfl)) (by kernel_rfl)
            rw [h0, h1, h2, h3, h4, h5, h6, h7, h8, h9, h10, h11]
            clear h0 h1 h2 h3 h4 h5 h6 h7 h8 h9 h10 h11 hX
            have hT1 := hT
            rw [show l 12 = true from hl 12 (by kernel_rfl)] at hT1
            have HT : Hid (RL b w.heap.size G N p (runS N (andS p.f (N.has c0.toNat)) (cs.take (j + 1))) w w1) := Lib.hid (by rw [HTK.out]; exact hT1)
            clear hT hT1 hl X
            go_wp2_with fail
            go_roundw
            case rel => exact ⟨j + 1, by omega, by go_num, HT⟩
            case measure => simp [intOf]; omega
      · obtain rfl : j = cs.length := by omega
        have hlt' : ¬ ((cs.length : Nat) : Int) + 1 < ((cs.length : Nat) : Int) + 1 := by omega
        obtain ⟨s, hs⟩ : ∃ s, runS N (andS p.f (N.has c0.toNat)) cs = s := ⟨_, rfl⟩
        have HF : Hid (nzS (andS s p.l) = R) := Lib.hid (by rw [← hs]; exact HR.out)
        rw [List.take_length, hs] at HS
        have HE := Lib.hid (both_any s p.l)
        go_upto_region 6 with fail
        refine wp_region_list ?_
        refine wpList_plain rfl fun K hK => wp_load_sp (.tmp 7) rfl G 0 rfl s (row8_range HS.out.2) (hK _ _ ?_)
        simp only [Act.put, List.setIfInBounds_toArray, List.set_cons_succ, List.set_cons_zero]
        refine wpList_plain rfl fun K hK => ?_
        have hK2 := Lib.hid hK
        clear hK
        go_wp2_with fail
        refine hK2.out _ _ ?_
        clear hK2 K
        refine wpList_plain rfl fun K hK => wp_load_sp (.tmp 43) rfl w.heap.size 9 rfl p.l (HS.out.1.l) (hK _ _ ?_)
        simp only [Act.put, List.setIfInBounds_toArray, List.set_cons_succ, List.set_cons_zero]
        refine wpList_plain rfl fun K hK => ?_
        have hK2 := Lib.hid hK
        clear hK
        go_wp2_with fail
        refine (HE.out _).mono ?_
        rintro _ x2 ⟨rfl, hb2⟩
        refine hK2.out _ _ ?_
        clear hK2 K
        have HK := Lib.hid (HS.out.1.1.up hb2)
        clear hb2 HE
        refine wpList_plain rfl fun K hK => ?_
        have hK2 := Lib.hid hK
        clear hK
        go_wp2_with fail
        refine hK2.out _ _ ?_
        clear hK2 K
        refine wpList_plain rfl fun K hK => wp_neq64 (.tmp 45) (.tmp 46) 90 rfl (andS s p.l) rfl rfl (hK _ _ ?_)
        simp only [Act.put, List.setIfInBounds_toArray, List.set_cons_succ, List.set_cons_zero]
        rw [HF.out]
        refine wpList_plain rfl fun K hK => ?_
        have hK2 := Lib.hid hK
        clear hK
        go_wp2_with fail
        refine hK2.out _ _ ?_
        clear hK2 K
        refine wpList_nil ?_
        go_wp2_with fail
        go_ret
        exact ⟨rfl, HK.out⟩
end Go.Proofs.YthglciccejholaaDoor.R5
