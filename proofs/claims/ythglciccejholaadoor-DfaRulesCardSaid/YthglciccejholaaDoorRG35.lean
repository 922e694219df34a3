/- Package regs: the reader's small steps: what comes next. -/
import Derived.Test.YthglciccejholaaDoorProg
import Derived.Test.YthglciccejholaaDoorV9
import Derived.WalkKit
import Derived.WalkLawsBesides
import Derived.WalkSpells
import Derived.Outline
import Derived.Lib.Walk
import Derived.Lib.Hide
import Derived.RegionTactic
import Derived.LoopTactic
import Derived.Below
import Derived.IntWalk
import Derived.Deep.QuietTactic
import Derived.BigQuiet
namespace Go.Proofs.YthglciccejholaaDoor.R5
set_option linter.unusedSimpArgs false
set_option linter.unusedVariables false
set_option maxRecDepth 100000
open Go.RowKit

def Net.upto (N : Net) (a b : Nat → Bool) (k : Nat) : Net := ⟨N.n, N.has, fun i j => N.beh i j || (decide (i < k) && a i && b j)⟩
theorem Net.upto_zero (N : Net) (a b : Nat → Bool) : N.upto a b 0 = N := by simp [Net.upto]
def LKs (b A : Nat) (N M : Net) (f g : Nat → Bool) (w0 w : World) (x : Bool) : Prop := Nk b (bif x then M else N) w0 w ∧ w.heap[A]? = some (.cells (spL f).toArray 90 (0, 0)) ∧ w.heap[A + 1]? = some (.cells (spL g).toArray 90 (0, 0))
theorem Net.upto_no {N : Net} {a b : Nat → Bool} {k : Nat} (h : a k = false) : netC (N.upto a b k) = netC (N.upto a b (k + 1)) := by
  refine netC_congr rfl (fun _ _ _ _ => rfl) (fun c _ s _ => ?_)
  show (N.beh c s || (decide (c < k) && a c && b s)) = (N.beh c s || (decide (c < k + 1) && a c && b s))
  by_cases e : c = k
  · subst e; simp [h]
  · rw [show decide (c < k) = decide (c < k + 1) by simp; omega]
theorem Nk.congr {b : Nat} {N M : Net} {w w' : World} (h : Nk b N w w') (e : netC N = netC M) : Nk b M w w' := ⟨by rw [← e]; exact h.1, h.2⟩
theorem spL_one (f : Nat → Bool) : (spL f).toArray.all (·.oneCell') = true := by
  apply all_oneCell_toArray
  intro v hv
  simp only [spL, List.mem_cons, List.not_mem_nil, or_false] at hv
  rcases hv with rfl | rfl | rfl | rfl | rfl | rfl | rfl | rfl <;> rfl
theorem wp_load_sp {op : Oper} {a : Act} {w : World} {K : Act → World → Prop} {Q : Exit → Act → World → Prop} (x : Operand) (ho : op.op = .load 90 x) (b o : Nat) (hx : a.eval x = .pointer (some ⟨b, o, none⟩)) (f : Nat → Bool) (hc : w.rangeAt b o (spL f))
    (h : K (a.put op.dst (spV (wf f))) w) : op.wp Tryd.prog a w K Q :=
  wp_load_mid 90 x ho b o hx (spL f) _ hc Tryd.underlying90 rfl (by kernel_rfl) h
theorem wp_store_sp {op : Oper} {a : Act} {w : World} {K : Act → World → Prop} {Q : Exit → Act → World → Prop} (x y : Operand) (ho : op.op = .store 90 x y) (b o : Nat) (f : Nat → Bool) (hx : a.eval x = .pointer (some ⟨b, o, none⟩)) (hy : a.eval y = spV (wf f))
    (ht : w.there b o 8) (h : K (a.put op.dst undef) (w.setCells b o (spL f))) : op.wp Tryd.prog a w K Q :=
  wp_store_mid 90 x y ho b o (spL f).toArray hx hy ht (by kernel_rfl) (spL_one f) h
theorem LKs.up {b A : Nat} {N M : Net} {f g : Nat → Bool} {w0 w w' : World} {x : Bool} (h : LKs b A N M f g w0 w x) (hb : Below w.heap.size w w') : LKs b A N M f g w0 w' x :=
  ⟨h.1.up hb, (hb.block _ (Array.getElem?_eq_some_iff.1 h.2.1).1).trans h.2.1, (hb.block _ (Array.getElem?_eq_some_iff.1 h.2.2).1).trans h.2.2⟩
theorem LKs.put {b : Nat} {N : Net} {f g : Nat → Bool} {w0 w : World} {j : Nat} (h : LKs b w0.heap.size (N.upto f g j) (N.upto f g (j + 1)) f g w0 w false) (hb : b < w0.heap.size) (hlt : j < N.n) (hn : N.n ≤ 512) (hf : f j = true) :
    LKs b w0.heap.size (N.upto f g j) (N.upto f g (j + 1)) f g w0 (w.setCells b (2049 + j * 8) (spL (orS ((N.upto f g j).beh j) g))) true := by
  refine ⟨h.1.put _ (putA_beh j (by omega) _ rfl (fun s _ => ?_) (fun _ _ _ _ => rfl) (fun c _ hc s _ => ?_)), (setCells_other (by omega) _ _ _).trans h.2.1, (setCells_other (by omega) _ _ _).trans h.2.2⟩
  · show (N.beh j s || (decide (j < j + 1) && f j && g s)) = ((N.beh j s || (decide (j < j) && f j && g s)) || g s)
    simp [hf]
  · show (N.beh c s || (decide (c < j) && f c && g s)) = (N.beh c s || (decide (c < j + 1) && f c && g s))
    rw [show decide (c < j) = decide (c < j + 1) by simp; omega]
set_option maxHeartbeats 4000000 in
theorem link_any {b : Nat} {N : Net} {w : World} (f g : Nat → Bool) (h : w.heap[b]? = some (.cells (netC N) 94 (0, 0))) (hn : N.n ≤ 512) :
    Calls Tryd.prog 86 #[.pointer (some ⟨b, 0, none⟩), spV (wf f), spV (wf g)] w fun e w' => e = .returned (.tuple #[]) ∧ Nk b (N.link f g) w w' := by
  have hb := (Array.getElem?_eq_some_iff.1 h).1
  have h2 : LKs b w.heap.size N N f g w ((w.alloc (.cells (spL f).toArray 90)).alloc (.cells (spL g).toArray 90)) false := by
    refine ⟨(Nk.start h).up (((Below.refl _ _).alloc (Nat.le_refl _) _).alloc (by simp) _), ?_, ?_⟩
    · rw [heap_alloc2_old]
    · rw [heap_alloc2_new]
  have S0 := Lib.hid h2
  clear h h2
  unfold spL at S0
  have c0 := S0.out.1.count
  simp only [cond_false] at c0
  go_enter Tryd.func86, Tryd.ntmps86
  go_wp2_with fail
  go_loopw [11] (fun i wr => ∃ j : Nat, j ≤ N.n ∧ i = .int .i64 j ∧ Hid (LKs b w.heap.size (N.upto f g j) (N.upto f g j) f g w wr false)) (fun i _ => N.n - (intOf i).toNat)
  case atStart => exact ⟨0, by omega, rfl, by rw [Net.upto_zero]; exact S0⟩
  case round =>
    obtain ⟨j, hj, rfl, HS⟩ := hrel
    clear S0 c0
    have hA := (Array.getElem?_eq_some_iff.1 HS.out.2.1).1
    by_cases hlt : j < N.n
    · have hlt' : (j : Int) < ((N.n : Nat) : Int) := by omega
      have hj8 : j / 64 < 8 := by omega
      have cw : wr.cell? ⟨w.heap.size, j / 64, none⟩ = some (.int .u64 (wf f (j / 64))) := row8_at HS.out.2.1 (j / 64) hj8
      have hr := W_has f (j / 64) (j % 64) (Nat.mod_lt _ (by omega))
      rw [Nat.div_add_mod] at hr
      have hlt8 : ((j : Int) / 64) < 8 := by omega
      cases hf : f j with
      | false =>
        rw [hf] at hr
        have HN := Lib.hid (Net.upto_no (N := N) (b := g) hf)
        unfold wf at cw
        clear hf
        go_wp2_with fail
        go_roundw
        case rel => exact ⟨j + 1, by omega, by go_num, Lib.hid ⟨HS.out.1.congr HN.out, HS.out.2⟩⟩
        case measure => simp [intOf]; omega
      | true =>
        rw [hf] at hr
        unfold wf at cw
        have hf2 := Lib.hid hf
        clear hf
        go_wp2_with fail
        clear cw hr
        refine wp_region_owed2 (fun l act w1 => ∃ X : Nat → Value, act = ⟨(List.toArray ((Value.pointer (some { block := b, off := 0 })) :: (spV (wf f)) :: (spV (wf g)) :: undef :: (Value.pointer (some { block := w.heap.size, off := 0 })) :: (Value.pointer (some { block := w.heap.size + 1, off := 0 })) :: (Value.int IntKind.i64 ↑j) :: (Value.pointer (some { block := b, off := 0 })) :: (Value.pointer (some { block := b, off := 0 })) :: (Value.pointer (some { block := b, off := 0 })) :: (Value.int IntKind.i64 ↑N.n) :: (Value.int IntKind.i64 ↑j) :: (Value.bool true) :: (Value.int IntKind.i64 ↑j) :: (Value.int IntKind.i64 ↑j) :: (Value.int IntKind.i64 (↑j / 64)) :: (Value.pointer (some { block := w.heap.size, off := j / 64 })) :: (Value.int IntKind.u64 ↑(W f (j / 64))) :: (Value.int IntKind.i64 ↑j) :: (Value.int IntKind.i64 (↑j % 64)) :: (Value.int IntKind.u64 (↑(W f (j / 64)) / 2 ^ (j % 64))) :: (Value.int IntKind.u64 (bits BinOp.and IntKind.u64 (↑(W f (j / 64)) / 2 ^ (j % 64)) 1)) :: (Value.bool true) :: X 0 :: X 1 :: X 2 :: X 3 :: X 4 :: X 5 :: X 6 :: X 7 :: X 8 :: X 9 :: X 10 :: X 11 :: X 12 :: (u36) :: [])), []⟩ ∧ (∀ i, l i = true → ([0, 1, 2, 3, 4, 5, 6, 7, 8, 9, 10, 11, 12] : List Nat).contains i = true → X i = (fun z1 => ([.pointer (some ⟨b, 0, none⟩), .int .i64 (j : Nat), .pointer (some ⟨b, 0, none⟩), .int .i64 (j : Nat), .pointer (some ⟨b, 0, none⟩), (.pointer (some ⟨b, 2049, none⟩)), (.pointer (some ⟨b, 2049 + j * 8, none⟩)), spV (wf ((N.upto f g j).beh j)), spV (wf g), spV (wf (orS ((N.upto f g j).beh j) g)), .pointer (some ⟨b, 0, none⟩), (.pointer (some ⟨b, 2049, none⟩)), (.pointer (some ⟨b, 2049 + j * 8, none⟩)), undef] : List Value).getD z1 undef) i) ∧ LKs b w.heap.size (N.upto f g j) (N.upto f g (j + 1)) f g w w1 (l 13)) (by kernel_rfl) (by kernel_rfl) ⟨(fun i => ([(u23), (u24), (u25), (u26), (u27), (u28), (u29), (u30), (u31), (u32), (u33), (u34), (u35), undef] : List Value).getD i undef), rfl, (fun i h => by cases h), ⟨HS.out.1.drew, HS.out.2⟩⟩ ?st ?fin
        case st =>
          go_light
          refine Owed.next (n := 0) (o := ?o0) ?ho0 ?h0 ?hs0
          case ho0 => rfl
          case h0 =>
            intro l act w1 hw hl hI K hK
            obtain ⟨hc, X, rfl, hX, hT⟩ := hI
            have HX := Lib.hid (packsM 0 hX [] (fun _ h => nomatch h))
            clear hX
            rw [if_pos (by rfl)]
            go_wp2_with fail
            exact hK.out _ _ ⟨hc.next hw, fun z0 => bif (0 :: []).contains z0 then (fun z1 => ([.pointer (some ⟨b, 0, none⟩), .int .i64 (j : Nat), .pointer (some ⟨b, 0, none⟩), .int .i64 (j : Nat), .pointer (some ⟨b, 0, none⟩), (.pointer (some ⟨b, 2049, none⟩)), (.pointer (some ⟨b, 2049 + j * 8, none⟩)), spV (wf ((N.upto f g j).beh j)), spV (wf g), spV (wf (orS ((N.upto f g j).beh j) g)), .pointer (some ⟨b, 0, none⟩), (.pointer (some ⟨b, 2049, none⟩)), (.pointer (some ⟨b, 2049 + j * 8, none⟩)), undef] : List Value).getD z1 undef) z0 else X z0, rfl, HX.out, hT⟩
          refine Owed.next (n := 1) (o := ?o1) ?ho1 ?h1 ?hs1
          case ho1 => rfl
          case h1 =>
            intro l act w1 hw hl hI K hK
            obtain ⟨hc, X, rfl, hX, hT⟩ := hI
            have HX := Lib.hid (packsM 1 hX [] (fun _ h => nomatch h))
            clear hX
            rw [if_pos (by rfl)]
            go_wp2_with fail
            exact hK.out _ _ ⟨hc.next hw, fun z0 => bif (1 :: []).contains z0 then (fun z1 => ([.pointer (some ⟨b, 0, none⟩), .int .i64 (j : Nat), .pointer (some ⟨b, 0, none⟩), .int .i64 (j : Nat), .pointer (some ⟨b, 0, none⟩), (.pointer (some ⟨b, 2049, none⟩)), (.pointer (some ⟨b, 2049 + j * 8, none⟩)), spV (wf ((N.upto f g j).beh j)), spV (wf g), spV (wf (orS ((N.upto f g j).beh j) g)), .pointer (some ⟨b, 0, none⟩), (.pointer (some ⟨b, 2049, none⟩)), (.pointer (some ⟨b, 2049 + j * 8, none⟩)), undef] : List Value).getD z1 undef) z0 else X z0, rfl, HX.out, hT⟩
          refine Owed.next (n := 2) (o := ?o2) ?ho2 ?h2 ?hs2
          case ho2 => rfl
          case h2 =>
            intro l act w1 hw hl hI K hK
            obtain ⟨hc, X, rfl, hX, hT⟩ := hI
            have HX := Lib.hid (packsM 2 hX [] (fun _ h => nomatch h))
            clear hX
            rw [if_pos (by rfl)]
            go_wp2_with fail
            exact hK.out _ _ ⟨hc.next hw, fun z0 => bif (2 :: []).contains z0 then (fun z1 => ([.pointer (some ⟨b, 0, none⟩), .int .i64 (j : Nat), .pointer (some ⟨b, 0, none⟩), .int .i64 (j : Nat), .pointer (some ⟨b, 0, none⟩), (.pointer (some ⟨b, 2049, none⟩)), (.pointer (some ⟨b, 2049 + j * 8, none⟩)), spV (wf ((N.upto f g j).beh j)), spV (wf g), spV (wf (orS ((N.upto f g j).beh j) g)), .pointer (some ⟨b, 0, none⟩), (.pointer (some ⟨b, 2049, none⟩)), (.pointer (some ⟨b, 2049 + j * 8, none⟩)), undef] : List Value).getD z1 undef) z0 else X z0, rfl, HX.out, hT⟩
          refine Owed.next (n := 3) (o := ?o3) ?ho3 ?h3 ?hs3
          case ho3 => rfl
          case h3 =>
            intro l act w1 hw hl hI K hK
            obtain ⟨hc, X, rfl, hX, hT⟩ := hI
            have HX := Lib.hid (packsM 3 hX [] (fun _ h => nomatch h))
            clear hX
            rw [if_pos (by rfl)]
            go_wp2_with fail
            exact hK.out _ _ ⟨hc.next hw, fun z0 => bif (3 :: []).contains z0 then (fun z1 => ([.pointer (some ⟨b, 0, none⟩), .int .i64 (j : Nat), .pointer (some ⟨b, 0, none⟩), .int .i64 (j : Nat), .pointer (some ⟨b, 0, none⟩), (.pointer (some ⟨b, 2049, none⟩)), (.pointer (some ⟨b, 2049 + j * 8, none⟩)), spV (wf ((N.upto f g j).beh j)), spV (wf g), spV (wf (orS ((N.upto f g j).beh j) g)), .pointer (some ⟨b, 0, none⟩), (.pointer (some ⟨b, 2049, none⟩)), (.pointer (some ⟨b, 2049 + j * 8, none⟩)), undef] : List Value).getD z1 undef) z0 else X z0, rfl, HX.out, hT⟩
          refine Owed.next (n := 4) (o := ?o4) ?ho4 ?h4 ?hs4
          case ho4 => rfl
          case h4 =>
            intro l act w1 hw hl hI K hK
            obtain ⟨hc, X, rfl, hX, hT⟩ := hI
            have h2 : X 2 = .pointer (some ⟨b, 0, none⟩) := hX 2 (hw 2 (by kernel_rfl)) (by kernel_rfl)
            have HX := Lib.hid (packsM 4 hX [2] (List.forall_mem_cons.2 ⟨hw 2 (by kernel_rfl), (fun _ h => nomatch h)⟩))
            clear hX
            rw [h2]
            clear h2
            rw [if_pos (by rfl)]
            go_wp2_with fail
            exact hK.out _ _ ⟨hc.next hw, fun z0 => bif (4 :: [2]).contains z0 then (fun z1 => ([.pointer (some ⟨b, 0, none⟩), .int .i64 (j : Nat), .pointer (some ⟨b, 0, none⟩), .int .i64 (j : Nat), .pointer (some ⟨b, 0, none⟩), (.pointer (some ⟨b, 2049, none⟩)), (.pointer (some ⟨b, 2049 + j * 8, none⟩)), spV (wf ((N.upto f g j).beh j)), spV (wf g), spV (wf (orS ((N.upto f g j).beh j) g)), .pointer (some ⟨b, 0, none⟩), (.pointer (some ⟨b, 2049, none⟩)), (.pointer (some ⟨b, 2049 + j * 8, none⟩)), undef] : List Value).getD z1 undef) z0 else X z0, rfl, HX.out, hT⟩
          refine Owed.next (n := 5) (o := ?o5) ?ho5 ?h5 ?hs5
          case ho5 => rfl
          case h5 =>
            intro l act w1 hw hl hI K hK
            obtain ⟨hc, X, rfl, hX, hT⟩ := hI
            have h4 : X 4 = .pointer (some ⟨b, 0, none⟩) := hX 4 (hw 4 (by kernel_rfl)) (by kernel_rfl)
            have HX := Lib.hid (packsM 5 hX [4] (List.forall_mem_cons.2 ⟨hw 4 (by kernel_rfl), (fun _ h => nomatch h)⟩))
            clear hX
            rw [h4]
            clear h4
            rw [if_pos (by rfl)]
            go_wp2_with fail
            exact hK.out _ _ ⟨hc.next hw, fun z0 => bif (5 :: [4]).contains z0 then (fun z1 => ([.pointer (some ⟨b, 0, none⟩), .int .i64 (j : Nat), .pointer (some ⟨b, 0, none⟩), .int .i64 (j : Nat), .pointer (some ⟨b, 0, none⟩), (.pointer (some ⟨b, 2049, none⟩)), (.pointer (some ⟨b, 2049 + j * 8, none⟩)), spV (wf ((N.upto f g j).beh j)), spV (wf g), spV (wf (orS ((N.upto f g j).beh j) g)), .pointer (some ⟨b, 0, none⟩), (.pointer (some ⟨b, 2049, none⟩)), (.pointer (some ⟨b, 2049 + j * 8, none⟩)), undef] : List Value).getD z1 undef) z0 else X z0, rfl, HX.out, hT⟩
          refine Owed.next (n := 6) (o := ?o6) ?ho6 ?h6 ?hs6
          case ho6 => rfl
          case h6 =>
            intro l act w1 hw hl hI K hK
            obtain ⟨hc, X, rfl, hX, hT⟩ := hI
            have h5 : X 5 = (.pointer (some ⟨b, 2049, none⟩)) := hX 5 (hw 5 (by kernel_rfl)) (by kernel_rfl)
            have h3 : X 3 = .int .i64 (j : Nat) := hX 3 (hw 3 (by kernel_rfl)) (by kernel_rfl)
            have HX := Lib.hid (packsM 6 hX [5, 3] (List.forall_mem_cons.2 ⟨hw 5 (by kernel_rfl), (List.forall_mem_cons.2 ⟨hw 3 (by kernel_rfl), (fun _ h => nomatch h)⟩)⟩))
            clear hX
            rw [h5, h3]
            clear h5 h3
            rw [if_pos (by rfl)]
            go_wp2_with fail
            exact hK.out _ _ ⟨hc.next hw, fun z0 => bif (6 :: [5, 3]).contains z0 then (fun z1 => ([.pointer (some ⟨b, 0, none⟩), .int .i64 (j : Nat), .pointer (some ⟨b, 0, none⟩), .int .i64 (j : Nat), .pointer (some ⟨b, 0, none⟩), (.pointer (some ⟨b, 2049, none⟩)), (.pointer (some ⟨b, 2049 + j * 8, none⟩)), spV (wf ((N.upto f g j).beh j)), spV (wf g), spV (wf (orS ((N.upto f g j).beh j) g)), .pointer (some ⟨b, 0, none⟩), (.pointer (some ⟨b, 2049, none⟩)), (.pointer (some ⟨b, 2049 + j * 8, none⟩)), undef] : List Value).getD z1 undef) z0 else X z0, rfl, HX.out, hT⟩
          refine Owed.next (n := 7) (o := ?o7) ?ho7 ?h7 ?hs7
          case ho7 => rfl
          case h7 =>
            intro l act w1 hw hl hI K hK
            obtain ⟨hc, X, rfl, hX, hT⟩ := hI
            have h6 : X 6 = (.pointer (some ⟨b, 2049 + j * 8, none⟩)) := hX 6 (hw 6 (by kernel_rfl)) (by kernel_rfl)
            have HX := Lib.hid (packsM 7 hX [6] (List.forall_mem_cons.2 ⟨hw 6 (by kernel_rfl), (fun _ h => nomatch h)⟩))
            clear hX
            have h13 : l 13 = false := by
              cases h : l 13 with
              | false => rfl
              | true =>
                have := hc 9 (hc 13 h 9 (by kernel_rfl)) 7 (by kernel_rfl)
                rw [hl] at this
                cases this
            have hT0 := hT
            rw [h13] at hT0
            rw [h6]
            clear h6
            rw [if_pos (by rfl)]
            refine wp_load_sp (.tmp 29) rfl b (2049 + j * 8) rfl ((N.upto f g j).beh j) (hT0.1.behAt j (by omega)) ?_
            exact hK.out _ _ ⟨hc.next hw, fun z0 => bif (7 :: [6]).contains z0 then (fun z1 => ([.pointer (some ⟨b, 0, none⟩), .int .i64 (j : Nat), .pointer (some ⟨b, 0, none⟩), .int .i64 (j : Nat), .pointer (some ⟨b, 0, none⟩), (.pointer (some ⟨b, 2049, none⟩)), (.pointer (some ⟨b, 2049 + j * 8, none⟩)), spV (wf ((N.upto f g j).beh j)), spV (wf g), spV (wf (orS ((N.upto f g j).beh j) g)), .pointer (some ⟨b, 0, none⟩), (.pointer (some ⟨b, 2049, none⟩)), (.pointer (some ⟨b, 2049 + j * 8, none⟩)), undef] : List Value).getD z1 undef) z0 else X z0, rfl, HX.out, hT⟩
          refine Owed.next (n := 8) (o := ?o8) ?ho8 ?h8 ?hs8
          case ho8 => rfl
          case h8 =>
            intro l act w1 hw hl hI K hK
            obtain ⟨hc, X, rfl, hX, hT⟩ := hI
            have HX := Lib.hid (packsM 8 hX [] (fun _ h => nomatch h))
            clear hX
            rw [if_pos (by rfl)]
            refine wp_load_sp (.tmp 5) rfl (w.heap.size + 1) 0 rfl g (row8_range hT.2.2) ?_
            exact hK.out _ _ ⟨hc.next hw, fun z0 => bif (8 :: []).contains z0 then (fun z1 => ([.pointer (some ⟨b, 0, none⟩), .int .i64 (j : Nat), .pointer (some ⟨b, 0, none⟩), .int .i64 (j : Nat), .pointer (some ⟨b, 0, none⟩), (.pointer (some ⟨b, 2049, none⟩)), (.pointer (some ⟨b, 2049 + j * 8, none⟩)), spV (wf ((N.upto f g j).beh j)), spV (wf g), spV (wf (orS ((N.upto f g j).beh j) g)), .pointer (some ⟨b, 0, none⟩), (.pointer (some ⟨b, 2049, none⟩)), (.pointer (some ⟨b, 2049 + j * 8, none⟩)), undef] : List Value).getD z1 undef) z0 else X z0, rfl, HX.out, hT⟩
          refine Owed.next (n := 9) (o := ?o9) ?ho9 ?h9 ?hs9
          case ho9 => rfl
          case h9 =>
            intro l act w1 hw hl hI K hK
            obtain ⟨hc, X, rfl, hX, hT⟩ := hI
            have h7 : X 7 = spV (wf ((N.upto f g j).beh j)) := hX 7 (hw 7 (by kernel_rfl)) (by kernel_rfl)
            have h8 : X 8 = spV (wf g) := hX 8 (hw 8 (by kernel_rfl)) (by kernel_rfl)
            have HX := Lib.hid (packsM 9 hX [7, 8] (List.forall_mem_cons.2 ⟨hw 7 (by kernel_rfl), (List.forall_mem_cons.2 ⟨hw 8 (by kernel_rfl), (fun _ h => nomatch h)⟩)⟩))
            clear hX
            rw [h7, h8]
            clear h7 h8
            rw [if_pos (by rfl)]
            go_wp2_with fail
            refine (either_any _ _ _).mono ?_
            rintro _ w2 ⟨rfl, hb⟩
            exact hK.out _ _ ⟨hc.next hw, fun z0 => bif (9 :: [7, 8]).contains z0 then (fun z1 => ([.pointer (some ⟨b, 0, none⟩), .int .i64 (j : Nat), .pointer (some ⟨b, 0, none⟩), .int .i64 (j : Nat), .pointer (some ⟨b, 0, none⟩), (.pointer (some ⟨b, 2049, none⟩)), (.pointer (some ⟨b, 2049 + j * 8, none⟩)), spV (wf ((N.upto f g j).beh j)), spV (wf g), spV (wf (orS ((N.upto f g j).beh j) g)), .pointer (some ⟨b, 0, none⟩), (.pointer (some ⟨b, 2049, none⟩)), (.pointer (some ⟨b, 2049 + j * 8, none⟩)), undef] : List Value).getD z1 undef) z0 else X z0, rfl, HX.out, hT.up hb⟩
          refine Owed.next (n := 10) (o := ?o10) ?ho10 ?h10 ?hs10
          case ho10 => rfl
          case h10 =>
            intro l act w1 hw hl hI K hK
            obtain ⟨hc, X, rfl, hX, hT⟩ := hI
            have h0 : X 0 = .pointer (some ⟨b, 0, none⟩) := hX 0 (hw 0 (by kernel_rfl)) (by kernel_rfl)
            have HX := Lib.hid (packsM 10 hX [0] (List.forall_mem_cons.2 ⟨hw 0 (by kernel_rfl), (fun _ h => nomatch h)⟩))
            clear hX
            rw [h0]
            clear h0
            rw [if_pos (by rfl)]
            go_wp2_with fail
            exact hK.out _ _ ⟨hc.next hw, fun z0 => bif (10 :: [0]).contains z0 then (fun z1 => ([.pointer (some ⟨b, 0, none⟩), .int .i64 (j : Nat), .pointer (some ⟨b, 0, none⟩), .int .i64 (j : Nat), .pointer (some ⟨b, 0, none⟩), (.pointer (some ⟨b, 2049, none⟩)), (.pointer (some ⟨b, 2049 + j * 8, none⟩)), spV (wf ((N.upto f g j).beh j)), spV (wf g), spV (wf (orS ((N.upto f g j).beh j) g)), .pointer (some ⟨b, 0, none⟩), (.pointer (some ⟨b, 2049, none⟩)), (.pointer (some ⟨b, 2049 + j * 8, none⟩)), undef] : List Value).getD z1 undef) z0 else X z0, rfl, HX.out, hT⟩
          refine Owed.next (n := 11) (o := ?o11) ?ho11 ?h11 ?hs11
          case ho11 => rfl
          case h11 =>
            intro l act w1 hw hl hI K hK
            obtain ⟨hc, X, rfl, hX, hT⟩ := hI
            have h10 : X 10 = .pointer (some ⟨b, 0, none⟩) := hX 10 (hw 10 (by kernel_rfl)) (by kernel_rfl)
            have HX := Lib.hid (packsM 11 hX [10] (List.forall_mem_cons.2 ⟨hw 10 (by kernel_rfl), (fun _ h => nomatch h)⟩))
            clear hX
            rw [h10]
            clear h10
            rw [if_pos (by rfl)]
            go_wp2_with fail
            exact hK.out _ _ ⟨hc.next hw, fun z0 => bif (11 :: [10]).contains z0 then (fun z1 => ([.pointer (some ⟨b, 0, none⟩), .int .i64 (j : Nat), .pointer (some ⟨b, 0, none⟩), .int .i64 (j : Nat), .pointer (some ⟨b, 0, none⟩), (.pointer (some ⟨b, 2049, none⟩)), (.pointer (some ⟨b, 2049 + j * 8, none⟩)), spV (wf ((N.upto f g j).beh j)), spV (wf g), spV (wf (orS ((N.upto f g j).beh j) g)), .pointer (some ⟨b, 0, none⟩), (.pointer (some ⟨b, 2049, none⟩)), (.pointer (some ⟨b, 2049 + j * 8, none⟩)), undef] : List Value).getD z1 undef) z0 else X z0, rfl, HX.out, hT⟩
          refine Owed.next (n := 12) (o := ?o12) ?ho12 ?h12 ?hs12
          case ho12 => rfl
          case h12 =>
            intro l act w1 hw hl hI K hK
            obtain ⟨hc, X, rfl, hX, hT⟩ := hI
            have h11 : X 11 = (.pointer (some ⟨b, 2049, none⟩)) := hX 11 (hw 11 (by kernel_rfl)) (by kernel_rfl)
            have h1 : X 1 = .int .i64 (j : Nat) := hX 1 (hw 1 (by kernel_rfl)) (by kernel_rfl)
            have HX := Lib.hid (packsM 12 hX [11, 1] (List.forall_mem_cons.2 ⟨hw 11 (by kernel_rfl), (List.forall_mem_cons.2 ⟨hw 1 (by kernel_rfl), (fun _ h => nomatch h)⟩)⟩))
            clear hX
            rw [h11, h1]
            clear h11 h1
            rw [if_pos (by rfl)]
            go_wp2_with fail
            exact hK.out _ _ ⟨hc.next hw, fun z0 => bif (12 :: [11, 1]).contains z0 then (fun z1 => ([.pointer (some ⟨b, 0, none⟩), .int .i64 (j : Nat), .pointer (some ⟨b, 0, none⟩), .int .i64 (j : Nat), .pointer (some ⟨b, 0, none⟩), (.pointer (some ⟨b, 2049, none⟩)), (.pointer (some ⟨b, 2049 + j * 8, none⟩)), spV (wf ((N.upto f g j).beh j)), spV (wf g), spV (wf (orS ((N.upto f g j).beh j) g)), .pointer (some ⟨b, 0, none⟩), (.pointer (some ⟨b, 2049, none⟩)), (.pointer (some ⟨b, 2049 + j * 8, none⟩)), undef] : List Value).getD z1 undef) z0 else X z0, rfl, HX.out, hT⟩
          refine Owed.next (n := 13) (o := ?o13) ?ho13 ?h13 ?hs13
          case ho13 => rfl
          case h13 =>
            intro l act w1 hw hl hI K hK
            obtain ⟨hc, X, rfl, hX, hT⟩ := hI
            have h12 : X 12 = (.pointer (some ⟨b, 2049 + j * 8, none⟩)) := hX 12 (hw 12 (by kernel_rfl)) (by kernel_rfl)
            have h9 : X 9 = spV (wf (orS ((N.upto f g j).beh j) g)) := hX 9 (hw 9 (by kernel_rfl)) (by kernel_rfl)
            have HX := fun v => Lib.hid (packsN 13 v hX (by kernel_rfl) [12, 9] (List.forall_mem_cons.2 ⟨hw 12 (by kernel_rfl), (List.forall_mem_cons.2 ⟨hw 9 (by kernel_rfl), (fun _ h => nomatch h)⟩)⟩))
            clear hX
            rw [h12, h9]
            clear h12 h9
            rw [if_pos (by rfl)]
            have h13 : l 13 = false := hl
            have hT0 := hT
            rw [h13] at hT0
            refine wp_store_sp (.tmp 35) (.tmp 32) rfl b (2049 + j * 8) (orS ((N.upto f g j).beh j) g) rfl rfl (hT0.1.there _ 8 (by omega)) ?_
            exact hK.out _ _ ⟨hc.next hw, fun z0 => bif [13].contains z0 then undef else bif ([12, 9] : List Nat).contains z0 then (fun z1 => ([.pointer (some ⟨b, 0, none⟩), .int .i64 (j : Nat), .pointer (some ⟨b, 0, none⟩), .int .i64 (j : Nat), .pointer (some ⟨b, 0, none⟩), (.pointer (some ⟨b, 2049, none⟩)), (.pointer (some ⟨b, 2049 + j * 8, none⟩)), spV (wf ((N.upto f g j).beh j)), spV (wf g), spV (wf (orS ((N.upto f g j).beh j) g)), .pointer (some ⟨b, 0, none⟩), (.pointer (some ⟨b, 2049, none⟩)), (.pointer (some ⟨b, 2049 + j * 8, none⟩)), undef] : List Value).getD z1 undef) z0 else X z0, rfl, (HX _).out, hT0.put hb hlt hn hf2.out⟩
          exact Owed.last rfl
        case fin =>
          intro l act w1 hl hI
          obtain ⟨X, rfl, hX, hT⟩ := hI
          have h0 : X 0 = .pointer (some ⟨b, 0, none⟩) := hX 0 (hl 0 (by kernel_rfl)) (by kernel_rfl)
          have h1 : X 1 = .int .i64 (j : Nat) := hX 1 (hl 1 (by kernel_rfl)) (by kernel_rfl)
          have h2 : X 2 = .pointer (some ⟨b, 0, none⟩) := hX 2 (hl 2 (by kernel_rfl)) (by kernel_rfl)
          have h3 : X 3 = .int .i64 (j : Nat) := hX 3 (hl 3 (by kernel_rfl)) (by kernel_rfl)
          have h4 : X 4 = .pointer (some ⟨b, 0, none⟩) := hX 4 (hl 4 (by kernel_rfl)) (by kernel_rfl)
          have h5 : X 5 = (.pointer (some ⟨b, 2049, none⟩)) := hX 5 (hl 5 (by kernel_rfl)) (by kernel_rfl)
          have h6 : X 6 = (.pointer (some ⟨b, 2049 + j * 8, none⟩)) := hX 6 (hl 6 (by kernel_rfl)) (by kernel_rfl)
          have h7 : X 7 = spV (wf ((N.upto f g j).beh j)) := hX 7 (hl 7 (by kernel_rfl)) (by kernel_rfl)
          have h8 : X 8 = spV (wf g) := hX 8 (hl 8 (by kernel_rfl)) (by kernel_rfl)
          have h9 : X 9 = spV (wf (orS ((N.upto f g j).beh j) g)) := hX 9 (hl 9 (by kernel_rfl)) (by kernel_rfl)
          have h10 : X 10 = .pointer (some ⟨b, 0, none⟩) := hX 10 (hl 10 (by kernel_rfl)) (by kernel_rfl)
          have h11 : X 11 = (.pointer (some ⟨b, 2049, none⟩)) := hX 11 (hl 11 (by kernel_rfl)) (by kernel_rfl)
          have h12 : X 12 = (.pointer (some ⟨b, 2049 + j * 8, none⟩)) := hX 12 (hl 12 (by kernel_rfl)) (by kernel_rfl)
          rw [h0, h1, h2, h3, h4, h5, h6, h7, h8, h9, h10, h11, h12]
          clear h0 h1 h2 h3 h4 h5 h6 h7 h8 h9 h10 h11 h12 hX
          have hT1 := hT
          rw [show l 13 = true from hl 13 (by kernel_rfl)] at hT1
          have HT := Lib.hid hT1
          clear hT hT1 hl X
          go_wp2_with fail
          go_roundw
          case rel => exact ⟨j + 1, by omega, by go_num, Lib.hid HT.out⟩
          case measure => simp [intOf]; omega
    · obtain rfl : j = N.n := by omega
      have hlt' : ¬ ((N.n : Nat) : Int) < ((N.n : Nat) : Int) := by omega
      go_wp2
      go_end0
      exact ⟨rfl, HS.out.1⟩
end Go.Proofs.YthglciccejholaaDoor.R5
