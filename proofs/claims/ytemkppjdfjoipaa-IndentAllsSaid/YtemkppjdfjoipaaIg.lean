/- Package indent. -/
import Derived.Test.YtemkppjdfjoipaaProg
import Derived.Test.YtemkppjdfjoipaaIf
import Derived.Great.BuildSlice
import Derived.WalkKit
import Derived.Maps.OwnSet
import Derived.Maps.OwnOps
import Derived.Maps.Own
import Derived.DeepKeys5
import Derived.BigFrame
import Derived.WalkMore
import Derived.ScopeJumps
import Derived.StillTailTactics
import Derived.Stop.BytesEq
import Derived.WalkLawsBesides
import Derived.WalkSpells
import Derived.Outline
import Derived.Lib.Walk
import Derived.Lib.Hide
import Derived.Lib.Slices
import Derived.Lib.Strings
import Derived.RegionTactic
import Derived.LoopTactic
import Derived.Below
import Derived.IntWalk
import Derived.Deep.QuietTactic
import Derived.BigQuiet
import Derived.Deep.MidRow
import Derived.Maps.AppendAt
import Derived.Laws.Rows
import Derived.Laws.Tables
import Derived.Deep.WholeRow
import Derived.Deep.Cut
import Derived.Deep.CutRange
import Derived.Lib.SliceRun
import Derived.Laws.MakeOwn
import Derived.Deep.RegionLaw
import Derived.Deep.RegionLawGrows
import Derived.Deep.RegionHeld3
import Derived.RegionCalls
import Derived.Deep.RegionWith
import Derived.Deep.Light
import Derived.Laws.CopyOwn
import Derived.Laws.ResultCell
namespace Go.Proofs.Ytemkppjdfjoipaa.I1
set_option linter.unusedSimpArgs false
set_option linter.unusedVariables false
set_option maxRecDepth 100000
open Go.RowKit
/- blocks. -/
def tkA (t : Tk) : List Value := [.int .i64 t.1, .int .i64 t.2.1, .int .i64 t.2.2]
def tkL (l : List Tk) : List Value := l.flatMap tkA
theorem tkL_app (l r : List Tk) : tkL (l ++ r) = tkL l ++ tkL r := by simp [tkL]
theorem tkL_len (l : List Tk) : (tkL l).length = l.length * 3 := by
  induction l with
  | nil => rfl
  | cons a l ih => simp [tkL, tkA] at ih ⊢; omega
abbrev rI (v : Value) (l : List Int) : It := .row v 3 1 l.length (zi l)
abbrev rT (v : Value) (l : List Tk) : It := .row v 40 3 l.length (tkL l)
section
variable {B : Nat} {w0 w w' : World} {L L' : List It}
theorem Sep.perm (h : Sep B w0 w L) (hp : List.Perm L L') : Sep B w0 w L' :=
  ⟨h.bel, h.sz, fun x hx => h.li x (hp.mem_iff.2 hx), (hp.pairwise_iff (fun h => h.symm)).1 h.ap⟩
theorem Sep.add {e : TypeId} {size n : Nat} {v : Value} {xs : List Value} (h : Sep B w0 w L) (hb : Below w.heap.size w w') (hr : w'.ownsRow w.heap.size e size v n xs) : Sep B w0 w' (.row v e size n xs :: L) := by
  have h1 := h.up hb
  refine ⟨h1.bel, h1.sz, fun x hx => ?_, List.pairwise_cons.2 ⟨fun y hy b hb' hyb => ?_, h1.ap⟩⟩
  · rcases List.mem_cons.1 hx with rfl | hx
    · exact row_base hr h.sz
    · exact h1.li x hx
  · have h2 := (It.lt (h.li y hy) hyb).2
    have h3 := (World.ownsRow.lt hr b hb').1
    omega
theorem Sep.at {x : It} (h : Sep B w0 w (x :: L)) : x.lies B w := h.li x (List.mem_cons_self ..)
/-- A row that was not there. -/
theorem Sep.none_ (h : Sep B w0 w L) (e : TypeId) (size : Nat) : Sep B w0 w (.row (.slice none 0 0) e size 0 [] :: L) := by
  refine ⟨h.bel, h.sz, fun x hx => ?_, List.pairwise_cons.2 ⟨fun y hy b hb => (by cases hb), h.ap⟩⟩
  rcases List.mem_cons.1 hx with rfl | hx
  · exact ⟨by simp, .inl ⟨rfl, rfl⟩⟩
  · exact h.li x hx
/-- A block that was just made, as a row. -/
theorem Sep.full {cs : Array Value} {e : TypeId} {size n : Nat} {b : Nat} (h : Sep B w0 w (.box b (.cells cs e (0, 0)) :: L)) (hn : cs.size = n * size) (hm : n ≤ maxLen) : Sep B w0 w (.row (.slice (some ⟨b, 0, none⟩) n n) e size n cs.toList :: L) := by
  have hx := h.at
  exact h.same ⟨by simp [hn], .inr ⟨b, n, cs, rfl, hx.1, hx.2, Nat.le_refl _, hm, hn, by rw [← hn, ← Array.length_toList, List.take_length]⟩⟩ rfl
end
theorem info35 : (Try.prog.info? 40).map (fun i => (i.zero, i.size, i.bytes)) = some (some (.agg #[.int .i64 0, .int .i64 0, .int .i64 0]), 3, 24) := by kernel_rfl
theorem tk_one (t : Tk) : ∀ v ∈ tkA t, v.oneCell' = true := by
  intro v hv
  simp only [tkA, List.mem_cons, List.mem_nil_iff, or_false] at hv
  rcases hv with rfl | rfl | rfl <;> rfl
theorem rI_cells {B g cap : Nat} {w : World} {l : List Int} (h : w.ownsRow B 3 1 (.slice (some ⟨g, 0, none⟩) l.length cap) l.length (zi l)) {i : Nat} (hi : i < l.length) : w.cell? ⟨g, i, none⟩ = some (.int .i64 (l.getD i 0)) := by
  have := h.cells (g := g) rfl i (.int .i64 l[i]) (by simp [zi, hi])
  rw [Addr.add_mid, Nat.zero_add] at this
  rw [this, getD_lt hi]
theorem row_take {B g cap : Nat} {w : World} {l : List Int} {k : Nat} (hk : k ≤ l.length) (h : w.ownsRow B 3 1 (.slice (some ⟨g, 0, none⟩) l.length cap) l.length (zi l)) : w.ownsRow B 3 1 (.slice (some ⟨g, 0, none⟩) k cap) (l.take k).length (zi (l.take k)) := by
  refine ⟨by simp [zi], ?_⟩
  rcases h.2 with ⟨e, _⟩ | ⟨g', cap', cur, hv, h1, h2, h3, h4, h5, h6⟩
  · cases e
  · injection hv with e1 e2 e3
    injection e1 with e1
    injection e1 with e1 e4 e5
    subst e1 e3
    refine .inr ⟨g, cap, cur, by rw [List.length_take, Nat.min_eq_left hk], h1, h2, by rw [List.length_take]; omega, h4, h5, ?_⟩
    rw [List.length_take, Nat.min_eq_left hk]
    have h7 : (cur.toList.take (l.length * 1)).take (k * 1) = (zi l).take k := by rw [h6, Nat.mul_one]
    rw [List.take_take, Nat.mul_one, Nat.mul_one, Nat.min_eq_left hk] at h7
    rw [Nat.mul_one, h7]; simp [zi, List.map_take]
section
variable {w w0 : World} {B : Nat} {L : List It} {ops : Array Oper} {rest : List Oper} {o : Oper} {a : Act} {Q : Exit → Act → World → Prop}
theorem wp_appT {l : List Tk} (v : Value) (hgd : o.guard = none) (s x : Operand) (ho : o.op = .call { callee := .builtin .append, args := #[s, x], argTypes := #[26, 26] })
    (hs : a.eval s = v) (hS : Sep B w0 w (rT v l :: L)) (ad : Addr) (c : Nat) (news : List Tk) (hx : a.eval x = .slice (some ad) news.length c) (hnews : ∀ j u, (tkL news)[j]? = some u → w.cell? (ad.add j) = some u)
    (hlen : l.length + news.length ≤ 1000000000000) (h : ∀ v' w', Sep B w0 w' (rT v' (l ++ news) :: L) → wpList Try.prog ops Q rest (a.put o.dst v') w') : wpList Try.prog ops Q (o :: rest) a w := by
  obtain ⟨i1, hi1, hy0, hy1, hy2⟩ := info_parts info35
  refine wpList_append_own_at w hgd s x 26 ho B 40 i1 _ 3 24 Try.underlying26 hi1 hy0 hy1 hy2 rfl (by decide) v l.length (tkL l) hs hS.at ad news.length c (tkL news) hx (tkL_len _) hnews (fun u hu => ?_) (by unfold maxLen; omega) (by omega) hS.sz fun v' w' hown hg _ hat => h v' w' ?_
  · obtain ⟨t, _, ht⟩ := List.mem_flatMap.1 hu
    exact tk_one t u ht
  · have := hS.app hown hg hat
    rw [← tkL_app, ← List.length_append] at this
    exact this
theorem wp_appI {l : List Int} (v : Value) (hgd : o.guard = none) (s x : Operand) (ho : o.op = .call { callee := .builtin .append, args := #[s, x], argTypes := #[25, 25] })
    (hs : a.eval s = v) (hS : Sep B w0 w (rI v l :: L)) (ad : Addr) (c : Nat) (news : List Int) (hx : a.eval x = .slice (some ad) news.length c) (hnews : ∀ j u, (zi news)[j]? = some u → w.cell? (ad.add j) = some u)
    (hlen : l.length + news.length ≤ 1000000000000) (h : ∀ v' w', Sep B w0 w' (rI v' (l ++ news) :: L) → wpList Try.prog ops Q rest (a.put o.dst v') w') : wpList Try.prog ops Q (o :: rest) a w := by
  obtain ⟨i1, hi1, hy0, hy1, hy2⟩ := info_parts info3b
  refine wpList_append_own_at w hgd s x 25 ho B 3 i1 _ 1 8 Try.underlying25 hi1 hy0 hy1 hy2 rfl (by decide) v l.length (zi l) hs hS.at ad news.length c (zi news) hx (by simp [zi]) hnews (zi_one _) (by unfold maxLen; omega) (by omega) hS.sz fun v' w' hown hg _ hat => h v' w' ?_
  have := hS.app hown hg hat
  rw [show zi l ++ zi news = zi (l ++ news) by simp [zi], ← List.length_append] at this
  exact this
end
theorem Sep.boxAt {B b : Nat} {w0 w : World} {L : List It} {cs : Array Value} {t : TypeId} (h : Sep B w0 w (.box b (.cells cs t (0, 0)) :: L)) (j : Nat) : w.cell? ⟨b, j, none⟩ = cs[j]? := cell_of_row w b j cs t (0, 0) h.at.2
theorem news_of {w : World} {b : Nat} {cs : Array Value} {vs : List Value} (h : ∀ j, w.cell? ⟨b, j, none⟩ = cs[j]?) (hv : cs.toList = vs) : ∀ j u, vs[j]? = some u → w.cell? ((⟨b, 0, none⟩ : Addr).add j) = some u := fun j u hu => by
  rw [Addr.add_mid, Nat.zero_add, h j, ← hu, ← hv]; simp
theorem news1 {B b : Nat} {w0 w : World} {L : List It} {x : Int} (h : Sep B w0 w (.box b (.cells #[.int .i64 x] 3) :: L)) : ∀ j u, (zi [x])[j]? = some u → w.cell? ((⟨b, 0, none⟩ : Addr).add j) = some u := news_of (h.boxAt) rfl
theorem newsT {B b : Nat} {w0 w : World} {L : List It} {x y z : Int} (h : Sep B w0 w (.box b (.cells #[.int .i64 x, .int .i64 y, .int .i64 z] 40) :: L)) : ∀ j u, (tkL [(x, y, z)])[j]? = some u → w.cell? ((⟨b, 0, none⟩ : Addr).add j) = some u := news_of (h.boxAt) rfl
theorem Sep.swap {B : Nat} {w0 w : World} {L : List It} {x y : It} (h : Sep B w0 w (x :: y :: L)) : Sep B w0 w (y :: x :: L) := h.perm (List.Perm.swap _ _ _)
theorem Sep.oneT {B b : Nat} {w0 w : World} {L : List It} {x y z : Int} (h : Sep B w0 w (.box b (.cells #[.int .i64 x, .int .i64 y, .int .i64 z] 40) :: L)) : Sep B w0 w (rT (.slice (some ⟨b, 0, none⟩) 1 1) [(x, y, z)] :: L) := h.full rfl (by decide)
def BlkP (B : Nat) (w0 : World) (X : List It) (r : List Int × List Tk) (e : Ending) (w' : World) : Prop := ∃ v t, e = .returned (.tuple #[v, t]) ∧ Sep B w0 w' (rT t r.2 :: rI v r.1 :: X)
set_option maxHeartbeats 16000000 in
theorem blocks_any {B : Nat} {w0 w : World} {v : Value} {l : List Int} {col : Int} {X : List It} (hr : Rise l) (h0 : 0 ≤ col) (hl : l.length ≤ 4097) (hs : Sep B w0 w (rI v l :: X)) :
    Calls Try.prog 81 #[v, .int .i64 col] w (BlkP B w0 X (blkF l col)) := by
  obtain ⟨i0, hi, hz0, hz1, hz2⟩ := info_parts info3b
  obtain ⟨i1, hi1, hy0, hy1, hy2⟩ := info_parts info35
  have hrow : w.ownsRow B 3 1 v l.length (zi l) := hs.at
  obtain ⟨g, cap, rfl, hcap⟩ := row_own hrow hr.ne
  obtain ⟨n, hn⟩ : ∃ n, l.length = n + 1 := ⟨l.length - 1, by have := hr.ne; omega⟩
  have c0 : w.cell? ⟨g, n, none⟩ = some (.int .i64 (l.getD n 0)) := rI_cells hrow (by omega)
  have HS : Hid (Sep B w0 w (rI (.slice (some ⟨g, 0, none⟩) (n + 1) cap) l :: X)) := Lib.hid (by rw [← hn]; exact hs)
  have HR := Lib.hid hr
  obtain ⟨y, hy⟩ : ∃ y, l.getD n 0 = y := ⟨_, rfl⟩
  have HY := Lib.hid hy
  rw [hy] at c0
  have hp1 : ((n + 1 : Nat) : Int) - 1 = (n : Int) := by omega
  have hk0 : ¬ (n : Int) < 0 := by omega
  have hkl : (n : Int) < ((n + 1 : Nat) : Int) := by omega
  have HN := Lib.hid hn
  rw [hn] at hcap ⊢
  clear hrow hs hr hy
  by_cases hlt : y < col
  · have HRES : Hid (blkF l col = (l ++ [col], [(20, 0, 0)])) := Lib.hid (by
      unfold blkF
      rw [if_pos (by rw [HN.out, Nat.add_sub_cancel, HY.out]; exact hlt)])
    rw [HRES.out]
    clear HRES HR HY
    obtain ⟨b0, hb0⟩ : ∃ b0, w.heap.size = b0 := ⟨_, rfl⟩
    have S1 := Lib.hid (HS.out.alloc (.cells #[.int .i64 col] 3))
    rw [hb0] at S1
    clear HS
    go_enter Try.func81, Try.ntmps81
    go_upto_region 3 with fail
    go_wp2_with (at_builtin; refine wp_appI (B := B) (w0 := w0) (l := l) (L := .box b0 (.cells #[.int .i64 col] 3) :: X) _ rfl (.tmp 17) (.tmp 19) rfl rfl S1.out.swap ⟨b0, 0, none⟩ 1 [col] rfl (news1 S1.out) (by simp only [List.length_singleton]; omega) ?_)
    intro v1 w1 hs1
    have S2 := Lib.hid (hs1.perm (List.Perm.cons _ (List.Perm.refl _))).swap.tl
    have S3 := Lib.hid (S2.out.alloc (.cells #[.int .i64 20, .int .i64 0, .int .i64 0] 40)).oneT
    clear S1 hs1 S2
    go_wp2_with fail
    go_ret2
    exact ⟨_, _, rfl, S3.out⟩
  · have hge : ¬ y < col := hlt
    have hN0 : Hid (keepN l col (n + 1) = keepN l col l.length) := Lib.hid (by rw [HN.out])
    have HRES : Hid (blkF l col = (l.take (keepN l col l.length), List.replicate (l.length - keepN l col l.length) (21, 0, 0) ++ (if l.getD (keepN l col l.length - 1) 0 < col then [(23, 0, 0)] else []))) := Lib.hid (by
      unfold blkF
      rw [if_neg (by rw [HN.out, Nat.add_sub_cancel, HY.out]; exact hlt)])
    obtain ⟨R, hR⟩ : ∃ R, blkF l col = R := ⟨_, rfl⟩
    rw [hR]
    have hR := HRES.out.symm.trans hR
    clear HRES
    have S0 : Hid (Sep B w0 w (rT (.slice none 0 0) [] :: rI (.slice (some ⟨g, 0, none⟩) (n + 1) cap) l :: X)) := Lib.hid (HS.out.none_ 40 3)
    clear HS
    obtain ⟨K, hK⟩ : ∃ K, keepN l col l.length = K := ⟨_, rfl⟩
    rw [hK] at hN0 hR
    have HRS := Lib.hid hR
    clear hR
    have HK := Lib.hid (And.intro (hK ▸ keepN_le l col l.length) (hK ▸ keepN_pos HR.out.h0 h0 HR.out.ne))
    clear hK
    go_enter Try.func81, Try.ntmps81
    go_upto_region 5 with fail
    go_loopw [6, 7] (fun i t wr => ∃ j : Nat, j ≤ n ∧ i = .int .i64 (j : Nat) ∧ Hid (keepN l col (j + 1) = K) ∧ Hid (Sep B w0 wr (rT t (List.replicate (n - j) (21, 0, 0)) :: rI (.slice (some ⟨g, 0, none⟩) (n + 1) cap) l :: X))) (fun i _ _ => (intOf i).toNat)
    case atStart => exact ⟨n, by omega, rfl, hN0, Lib.hid (by rw [Nat.sub_self]; exact S0.out)⟩
    case round =>
    clear hN0 S0
    obtain ⟨j, hj, rfl, HJ, HS⟩ := hrel
    have hjI : ¬ (j : Int) < 0 := by omega
    have hjl : (j : Int) < ((n + 1 : Nat) : Int) := by omega
    have HROW := Lib.hid (HS.out.tl.at)
    obtain ⟨x, hx⟩ : ∃ x, l.getD j 0 = x := ⟨_, rfl⟩
    have cj : wr.cell? ⟨g, j, none⟩ = some (.int .i64 x) := by
      rw [← hx]
      refine rI_cells (B := B) (cap := cap) ?_ (by have := HN.out; omega)
      rw [HN.out]; have h := HROW.out; rw [It.lies, HN.out] at h; exact h
    clear HROW
    by_cases hxc : col < x
    · have hj0 : 0 < j := by
        rcases Nat.eq_zero_or_pos j with rfl | h
        · rw [HR.out.h0] at hx; omega
        · exact h
      obtain ⟨i, rfl⟩ : ∃ i, j = i + 1 := ⟨j - 1, by omega⟩
      have HJ2 : Hid (keepN l col (i + 1) = K) := Lib.hid (by rw [← HJ.out, keepN.eq_def l col (i + 1 + 1)]; simp only []; rw [hx, if_pos hxc])
      have hi1 : ((i + 1 : Nat) : Int) - 1 = (i : Int) := by omega
      clear HJ
      obtain ⟨b0, hb0⟩ : ∃ b0, wr.heap.size = b0 := ⟨_, rfl⟩
      have S1 := Lib.hid (HS.out.alloc (.cells #[.int .i64 21, .int .i64 0, .int .i64 0] 40))
      rw [hb0] at S1
      clear HS
      go_upto_region 7 with fail
      go_wp2_with (at_builtin; refine wp_appT (B := B) (w0 := w0) (L := .box b0 (.cells #[.int .i64 21, .int .i64 0, .int .i64 0] 40) :: _) _ rfl (.tmp 31) (.tmp 33) rfl rfl S1.out.swap ⟨b0, 0, none⟩ 1 [(21, 0, 0)] rfl (newsT S1.out) (by simp only [List.length_singleton, List.length_replicate]; have := HN.out; omega) ?_)
      intro v1 w1 hs1
      have S2 := Lib.hid hs1.swap.tl
      clear S1 hs1
      have S3 : Hid (Sep B w0 w1 (rT v1 (List.replicate (n - i) (21, 0, 0)) :: rI (.slice (some ⟨g, 0, none⟩) (n + 1) cap) l :: X)) := Lib.hid (by
        have h := S2.out
        rw [← List.replicate_succ', show n - (i + 1) + 1 = n - i by omega] at h
        exact h)
      clear S2
      go_wp2_with fail
      go_roundw
      case rel => exact ⟨i, by omega, rfl, HJ2, S3⟩
      case measure => simp [intOf]
    · have hKJ : K = j + 1 := by rw [← HJ.out, keepN.eq_def]; simp only []; rw [hx, if_neg hxc]
      subst hKJ
      have HX : Hid (l.getD j 0 = x) := Lib.hid hx
      have hjc : j + 1 ≤ cap := by omega
      have hjcI : ((j + 1 : Nat) : Int) ≤ (cap : Int) := by omega
      have hj0 : ¬ ((j : Int) + 1 < 0) := by omega
      have S1 : Hid (Sep B w0 wr (rI (.slice (some ⟨g, 0, none⟩) (j + 1) cap) (l.take (j + 1)) :: rT u7 (List.replicate (n - j) (21, 0, 0)) :: X)) := Lib.hid (by
        refine Sep.same (x' := rI (.slice (some ⟨g, 0, none⟩) (j + 1) cap) (l.take (j + 1))) HS.out.swap ?_ rfl
        have h := HS.out.swap.at
        rw [It.lies, ← HN.out] at h
        exact row_take (by have := HN.out; omega) h)
      by_cases hxl : x < col
      · have HRR : Hid (R = (l.take (j + 1), List.replicate (n - j) (21, 0, 0) ++ [(23, 0, 0)])) := Lib.hid (by
          rw [← HRS.out, Nat.add_sub_cancel, HX.out, if_pos hxl, show l.length - (j + 1) = n - j by have := HN.out; omega])
        obtain ⟨b0, hb0⟩ : ∃ b0, wr.heap.size = b0 := ⟨_, rfl⟩
        have S2 := Lib.hid (S1.out.swap.alloc (.cells #[.int .i64 23, .int .i64 0, .int .i64 0] 40))
        rw [hb0] at S2
        clear HS S1
        go_upto_region 9 with fail
        go_wp2_with (at_builtin; refine wp_appT (B := B) (w0 := w0) (L := .box b0 (.cells #[.int .i64 23, .int .i64 0, .int .i64 0] 40) :: _) _ rfl (.tmp 41) (.tmp 43) rfl rfl S2.out.swap ⟨b0, 0, none⟩ 1 [(23, 0, 0)] rfl (newsT S2.out) (by simp only [List.length_singleton, List.length_replicate]; have := HN.out; omega) ?_)
        intro v1 w1 hs1
        have S3 := Lib.hid hs1.swap.tl
        clear S2 hs1
        go_wp2_with fail
        go_ret2
        have e := HRR.out
        subst e
        exact ⟨_, _, rfl, S3.out⟩
      · have HRR : Hid (R = (l.take (j + 1), List.replicate (n - j) (21, 0, 0))) := Lib.hid (by
          rw [← HRS.out, Nat.add_sub_cancel, HX.out, if_neg hxl, List.append_nil, show l.length - (j + 1) = n - j by have := HN.out; omega])
        clear HS
        go_wp2_with fail
        go_ret2
        have e := HRR.out
        subst e
        exact ⟨_, _, rfl, S1.out.swap⟩
end Go.Proofs.Ytemkppjdfjoipaa.I1
