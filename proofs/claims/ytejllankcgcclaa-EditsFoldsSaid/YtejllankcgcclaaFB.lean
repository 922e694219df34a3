/- The lists' small functions: TwinEdits. -/
import Derived.Test.YtejllankcgcclaaFA
namespace Go.Proofs.Ytejllankcgcclaa
open Go.RowKit
set_option linter.unusedVariables false

theorem info23 : (Try.prog.info? 23).map (fun i => (i.zero, i.size, i.bytes)) = some (some (.agg #[.int .i64 0, .int .i64 0, .string .empty]), 3, 32) := by kernel_rfl

def marks (k : Nat) : List Ed := (List.range k).map fun i : Nat => ((-7000 - (i : Int), 0, .empty) : Ed)
theorem marks_length (k : Nat) : (marks k).length = k := by simp [marks]
theorem marks_succ (k : Nat) : marks (k + 1) = marks k ++ [(-7000 - (k : Int), 0, .empty)] := by simp [marks, List.range_succ]
theorem cellsE_append (a b : List Ed) : cellsE (a ++ b) = cellsE a ++ cellsE b := by simp [cellsE]
theorem cellsE_one (l : List Ed) : ∀ u ∈ cellsE l, u.oneCell' = true := by
  intro u hu
  simp only [cellsE, List.mem_flatMap, cellE] at hu
  obtain ⟨x, _, hx⟩ := hu
  simp at hx
  rcases hx with rfl | rfl | rfl <;> rfl
theorem reads_new (w : World) (x : Ed) : Reads (w.alloc (.cells #[.int .i64 x.1, .int .i64 x.2.1, .string x.2.2] 23)) (w.heap.size + 1) 3 (some ⟨w.heap.size, 0, none⟩) 1 (cellsE [x]) := by
  refine ⟨by simp [cellsE, cellE], fun _ => ⟨_, rfl, by simp, fun j u hu => ?_⟩⟩
  have hadd : (⟨w.heap.size, 0, none⟩ : Addr).add j = ⟨w.heap.size, j, none⟩ := by
    unfold Addr.add
    split
    · simp_all
    · simp
  rw [hadd, World.cell?_alloc_new]
  simpa [cellsE, cellE] using hu

theorem ownsCap {w : World} {base : Nat} {e : TypeId} {size : Nat} {v : Value} {n : Nat} {xs : List Value} (h : w.ownsRow base e size v n xs) (hn : 0 < n) :
    ∃ g cap, v = .slice (some ⟨g, 0, none⟩) n cap ∧ n ≤ cap := by
  rcases h.2 with ⟨_, h0⟩ | ⟨g, cap, cur, hv, _, _, hc, _⟩
  · omega
  · exact ⟨g, cap, hv, hc⟩

def TwinMade (w : World) (n : Nat) (l : List Ed) (r : Ending) (w' : World) : Prop :=
  ∃ g cap, r = .returned (.slice (some ⟨g, 0, none⟩) n cap) ∧ w'.ownsRow w.heap.size 23 3 (.slice (some ⟨g, 0, none⟩) (n + 3) cap) (n + 3) (cellsE (l ++ marks 3)) ∧ Below w.heap.size w w'

set_option maxHeartbeats 1000000 in
theorem twin_edits (A : Option Addr) (n c : Nat) (l : List Ed) (w : World) (ha : Reads w w.heap.size 3 A n (cellsE l)) (hn : n ≤ 300) :
    Calls Try.prog 19 #[.slice A n c] w (TwinMade w n l) := by
  obtain ⟨i0, hi0, hz0, hz1, hz2⟩ := info_parts info23
  have ha' := Lib.hid ha; clear ha
  go_enter Try.func19, Try.ntmps19
  go_wp2_with (at_builtin; refine wpList_append_any _ rfl (.tmp 5) (.tmp 6) _ rfl w.heap.size 23 i0 _ 3 32 Try.underlying31 hi0 hz0 hz1 hz2 rfl (by omega) _ 0 [] rfl ?c0 w.heap.size A n c (cellsE l) rfl ?c1 (cellsE_one l) ?c2 ?c3 ?c4 ?_)
  case c0 => exact ⟨by simp, .inr ⟨w.heap.size, 0, #[], rfl, Nat.le_refl _, heap_alloc_new _ _, Nat.le_refl _, by simp [maxLen], by simp, by simp⟩⟩
  case c1 => exact ha'.out.alloc (Nat.le_refl _) _
  case c2 => simp only [maxLen]; omega
  case c3 => omega
  case c4 => simp
  intro v1 w1 hown1 hg1 hat1
  have L1 : Below w.heap.size w w1 := (Bnew (Below.refl w.heap.size w) _).grown hg1 (by simp) (by simp [Value.ownBlock])
  clear hg1 hat1
  have hown1' := Lib.hid hown1; clear hown1
  have L1' := Lib.hid L1; clear L1
  go_wp2_with fail
  go_loopw [3, 4] (fun v i wr => ∃ k : Nat, k ≤ 3 ∧ i = .int .i64 k ∧ wr.ownsRow w.heap.size 23 3 v (n + k) (cellsE (l ++ marks k)) ∧ Below w.heap.size w wr) (fun _ i _ => 3 - (intOf i).toNat)
  case atStart => exact ⟨0, by omega, rfl, by simpa [marks] using hown1'.out, L1'.out⟩
  case round =>
    clear hown1' L1'
    obtain ⟨k, hk, rfl, hown, L⟩ := hrel
    have hown' := Lib.hid hown; clear hown
    have L' := Lib.hid L; clear L
    by_cases hk3 : k < 3
    · go_wp2_with (at_builtin; refine wpList_append_any _ rfl (.tmp 12) (.tmp 16) _ rfl w.heap.size 23 i0 _ 3 32 Try.underlying31 hi0 hz0 hz1 hz2 rfl (by omega) _ (n + k) (cellsE (l ++ marks k)) rfl ?c0 (wr.heap.size + 1) (some ⟨wr.heap.size, 0, none⟩) 1 1 (cellsE [(-7000 - (k : Int), 0, .empty)]) rfl ?c1 (cellsE_one _) ?c2 ?c3 ?c4 ?_)
      case c0 => exact hown'.out.alloc _
      case c1 => exact reads_new wr (-7000 - (k : Int), 0, .empty)
      case c2 => simp only [maxLen]; omega
      case c3 => omega
      case c4 => have := L'.out.size; simp; omega
      intro v2 w2 hown2 hg2 hat2
      have L2 : Below w.heap.size w w2 := (Bnew L'.out _).grown hg2 (by have := L'.out.size; simp; omega) (fun g hg => by have := (hown'.out.lt g hg).1; exact this)
      rw [← cellsE_append, List.append_assoc, ← marks_succ] at hown2
      clear hg2 hat2
      have hown2' := Lib.hid hown2; clear hown2
      have L2' := Lib.hid L2; clear L2
      go_wp2
      exact ⟨⟨k + 1, by omega, by go_num, hown2'.out, L2'.out⟩, by simp [intOf]; omega⟩
    · obtain rfl : k = 3 := by omega
      obtain ⟨g, cap, hv, hcap⟩ := ownsCap hown'.out (by omega)
      subst hv
      have i1 : (n : Int) ≤ (cap : Int) := by omega
      have i2 : n ≤ cap := by omega
      go_wp2
      go_ret
      exact ⟨g, cap, rfl, hown'.out, L'.out⟩
theorem reads_take {w : World} {base g n cap : Nat} {l m : List Ed} (h : w.ownsRow base 23 3 (.slice (some ⟨g, 0, none⟩) (n + m.length) cap) (n + m.length) (cellsE (l ++ m))) (hl : l.length = n) : Reads w w.heap.size 3 (some ⟨g, 0, none⟩) n (cellsE l) := by
  have hlt := (h.lt g rfl).2
  refine ⟨by rw [cellsE_length, hl], fun hn => ⟨_, rfl, hlt, fun j u hu => h.cells (g := g) rfl j u ?_⟩⟩
  rw [cellsE_append, List.getElem?_append_left]
  · exact hu
  · exact (List.getElem?_eq_some_iff.1 hu).1

set_option maxHeartbeats 1000000 in
theorem left_edits (A : Option Addr) (n c base g cap : Nat) (l : List Ed) (w : World) (ho : w.ownsRow base 23 3 (.slice (some ⟨g, 0, none⟩) (n + 3) cap) (n + 3) (cellsE (l ++ marks 3))) (ha : Reads w w.heap.size 3 A n (cellsE l)) (hn : n ≤ 300) :
    Calls Try.prog 23 #[.slice (some ⟨g, 0, none⟩) n cap, .slice A n c] w fun r w' => r = .returned (.bool true) ∧ Below w.heap.size w w' := by
  have hl : l.length = n := by have := ha.1; rw [cellsE_length] at this; omega
  have hr := reads_take (m := marks 3) ho hl
  have hall : Reads w w.heap.size 3 (some ⟨g, 0, none⟩) (n + 3) (cellsE (l ++ marks 3)) := Reads.of_own ho
  have hcap : n + 3 ≤ cap := by
    obtain ⟨g', cap', hv, hc⟩ := ownsCap ho (by omega)
    injection hv with _ _ hcc
    omega
  have hr' := Lib.hid hr; clear hr
  have hall' := Lib.hid hall; clear hall
  have ha' := Lib.hid ha; clear ha
  clear ho
  have i1 : (n : Int) + 3 ≤ (cap : Int) := by omega
  have i2 : n + 3 ≤ cap := hcap
  go_enter Try.func23, Try.ntmps23
  go_wp2_with fail
  refine (same_edits _ _ _ _ _ l w.heap.size _ hr'.out ha'.out (by omega)).mono ?_
  rintro _ w1 ⟨rfl, hb1⟩
  have hall1 := Lib.hid (hall'.out.below hb1)
  clear hr' ha' hall'
  have hb1' := Lib.hid hb1; clear hb1
  go_wp2_with fail
  go_loopw [6] (fun i wr => ∃ k : Nat, k ≤ 3 ∧ i = .int .i64 k ∧ wr = w1) (fun i _ => 3 - (intOf i).toNat)
  case atStart => exact ⟨0, by omega, rfl, rfl⟩
  case round =>
    obtain ⟨k, hk, rfl, rfl⟩ := hrel
    by_cases hk3 : k < 3
    · obtain ⟨b, off, hA, _, s, e, t, hx, c0, c1, c2⟩ := hall1.out.at3 (k := n + k) (by omega)
      obtain ⟨rfl, rfl⟩ : b = g ∧ off = 0 := by injection hA with hA; injection hA with h1 h2 h3; exact ⟨h1.symm, h2.symm⟩
      clear hA
      have hm : (l ++ marks 3)[n + k]? = some (-7000 - (k : Int), 0, .empty) := by
        rw [List.getElem?_append_right (by omega), hl]
        simp [marks, hk3]
      obtain ⟨rfl, rfl, rfl⟩ : s = -7000 - (k : Int) ∧ e = 0 ∧ t = .empty := by rw [hm] at hx; simpa [eq_comm] using hx
      clear hm hx
      rw [Nat.zero_add] at c0 c1 c2
      go_wp2
      exact ⟨⟨k + 1, by omega, by go_num, trivial⟩, by simp [intOf]; omega⟩
    · go_wp2
      go_ret
      exact ⟨rfl, hb1'.out⟩
end Go.Proofs.Ytejllankcgcclaa
