/- Where each line begins, as the document's Begins makes the list. -/
import Derived.Test.YtagjeckgfjddmaaFacts
import Derived.Maps.AppendAt
import Derived.RegionTactic
import Derived.OwnWalk
import Derived.Laws.OwnMore
import Derived.Deep.AppendLies
namespace Go.Proofs.Ytagjeckgfjddmaa
set_option linter.unusedSimpArgs false
set_option linter.unusedVariables false
open Go.RowKit


def begs (l : List UInt8) : Nat → List Nat
  | 0 => [0]
  | n + 1 => if l[n]? = some 10 then begs l n ++ [n + 1] else begs l n
theorem begs_nl (l : List UInt8) (n : Nat) (h : n < l.length) (hc : l[n] = 10) : begs l (n + 1) = begs l n ++ [n + 1] := by
  unfold begs; rw [if_pos (by rw [List.getElem?_eq_getElem h, hc])]; cases n <;> rfl
theorem begs_other (l : List UInt8) (n : Nat) (h : n < l.length) (hc : l[n] ≠ 10) : begs l (n + 1) = begs l n := by
  conv => lhs; unfold begs
  rw [if_neg (by rw [List.getElem?_eq_getElem h]; intro e; exact hc (Option.some.inj e))]
theorem begs_spec (l : List UInt8) : ∀ n : Nat, n ≤ l.length → (begs l n).length = cntN (l.take n) + 1 ∧ ∀ k b, (begs l n)[k]? = some b → Head l b k
  | 0, _ => by
    refine ⟨by simp [begs, cnt_nil], fun k b hb => ?_⟩
    cases k with
    | zero => simp [begs] at hb; subst hb; exact Head.zero l
    | succ k => simp [begs] at hb
  | n + 1, h => by
    obtain ⟨h1, h2⟩ := begs_spec l n (by omega)
    by_cases hc : l[n]'(by omega) = 10
    · rw [begs_nl l n (by omega) hc]
      have e := take_succ' l n (by omega)
      rw [hc] at e
      refine ⟨by rw [e, cnt_nl, List.length_append, h1]; rfl, fun k b hb => ?_⟩
      rcases Nat.lt_or_ge k (begs l n).length with hk | hk
      · rw [List.getElem?_append_left hk] at hb; exact h2 k b hb
      · rw [List.getElem?_append_right hk] at hb
        have hk0 : k - (begs l n).length = 0 := by
          have := (List.getElem?_eq_some_iff.1 hb).1
          simp at this; omega
        rw [hk0] at hb
        simp at hb
        subst hb
        exact ⟨h, by rw [e, cnt_nl]; omega, by rw [e, col_nl]⟩
    · rw [begs_other l n (by omega) hc, take_succ' l n (by omega), cnt_other _ _ hc]
      exact ⟨h1, h2⟩
theorem lastCol_next {l : List UInt8} {b b' k : Nat} (h : Head l b k) (h' : Head l b' (k + 1)) : lastCol (l.drop b) = (b' : Int) - 1 - b := by
  obtain ⟨p, q, h1, h2, h3, h4⟩ := lastCol_spec (l.drop b)
  rcases h4 with rfl | ⟨q', rfl⟩
  · have : ∀ x ∈ l.drop b, x ≠ 10 := by rw [h1]; simpa using h2
    have := h.lastLine this b'
    rw [h'.cnt] at this; omega
  · have hn := h.next p q' h1 h2
    have := place_inj l _ _ hn.le h'.le (hn.cnt.trans h'.cnt.symm) (hn.col.trans h'.col.symm)
    rw [h3]; omega
theorem lastCol_end {l : List UInt8} {b k : Nat} (h : Head l b k) (hk : cntN l = k) : lastCol (l.drop b) = (l.length : Int) - b := by
  obtain ⟨p, q, h1, h2, h3, h4⟩ := lastCol_spec (l.drop b)
  have hlen : (l.drop b).length = p.length + q.length := by rw [h1]; simp
  rw [List.length_drop] at hlen
  have := h.le
  rcases h4 with rfl | ⟨q', rfl⟩
  · simp at hlen; omega
  · have hn := h.next p q' h1 h2
    have := cnt_mono l _ _ hn.le
    rw [hn.cnt, List.take_length] at this; omega
def numCell (x : Nat) : Value := .int .i64 (x : Int)
def numCells (l : List Nat) : List Value := l.map numCell
theorem numCells_one (l : List Nat) : ∀ u ∈ numCells l, u.oneCell' = true := by
  intro u hu
  obtain ⟨x, -, rfl⟩ := List.mem_map.1 hu
  rfl
theorem numCells_append (a b : List Nat) : numCells (a ++ b) = numCells a ++ numCells b := List.map_append ..
theorem numCells_length (a : List Nat) : (numCells a).length = a.length := List.length_map ..
def BegMade (w : World) (l : List UInt8) (r : Ending) (w' : World) : Prop :=
  ∃ g cap, r = .returned (.slice (some ⟨g, 0, none⟩) (cntN l + 1) cap) ∧ cntN l + 1 ≤ cap ∧ (∀ k b : Nat, (begs l l.length)[k]? = some b → w'.cell? ⟨g, k, none⟩ = some (.int .i64 (b : Int))) ∧ g < w'.heap.size ∧ Below w.heap.size w w'
theorem int_info : (Try.prog.info? 3).map (fun i => (i.zero, i.size, i.bytes)) = some (some (.int .i64 0), 1, 8) := by kernel_rfl
theorem cell_num (w : World) (x : Nat) : ∀ j u, (numCells [x])[j]? = some u → (w.alloc (.cells #[.int .i64 (x : Int)] 3)).cell? ((⟨w.heap.size, 0, none⟩ : Addr).add j) = some u := by
  intro j u hu
  cases j with
  | zero => simp [numCells, numCell] at hu; subst hu; simp [Addr.add]
  | succ j => simp [numCells] at hu
theorem ownsCap' {w : World} {base : Nat} {v : Value} {n : Nat} {xs : List Value} (h : w.ownsRow base 3 1 v n xs) (hn : 0 < n) :
    ∃ g cap, v = .slice (some ⟨g, 0, none⟩) n cap ∧ n ≤ cap := by
  rcases h.2 with ⟨_, h0⟩ | ⟨g, cap, cur, hv, _, _, hc, _⟩
  · have := h.1; rw [h0] at this; simp at this; omega
  · exact ⟨g, cap, hv, hc⟩
set_option maxHeartbeats 1000000 in
theorem begins_any (s : ByteArray) (w : World) (hs : s.size ≤ 1048576) : Calls Try.prog 48 #[.string s] w (BegMade w s.data.toList) := by
  have hlen : s.data.toList.length = s.size := by simp
  have hlen' := Lib.hid hlen; clear hlen
  obtain ⟨i0, hi0, hz0, hz1, hz2⟩ := info_parts int_info
  go_enter Try.func48, Try.ntmps48
  go_wp2_with fail
  go_loopw [3, 4] (fun v i wr => ∃ k : Nat, k ≤ s.size ∧ i = .int .i64 k ∧ wr.ownsRow w.heap.size 3 1 v (begs s.data.toList k).length (numCells (begs s.data.toList k)) ∧ Below w.heap.size w wr ∧ w.heap.size ≤ wr.heap.size) (fun _ i _ => s.size - (intOf i).toNat)
  case atStart =>
    refine ⟨0, Nat.zero_le _, rfl, ?_, (Below.refl _ _).alloc (Nat.le_refl _) _, by simp⟩
    exact ⟨by simp [begs, numCells], .inr ⟨w.heap.size, 1, #[.int .i64 0], rfl, Nat.le_refl _, heap_alloc_new _ _, Nat.le_refl _, by simp [maxLen], by simp, by simp [begs, numCells, numCell]⟩⟩
  case round =>
    obtain ⟨k, hk, rfl, hown, L, S⟩ := hrel
    have hown' := Lib.hid hown; clear hown
    have L' := Lib.hid L; clear L
    have S' := Lib.hid S; clear S
    by_cases hkn : k < s.size
    · have hkl : k < s.data.toList.length := by rw [hlen'.out]; exact hkn
      have hb := byteAt s k hkn hkl
      obtain ⟨sp1, -⟩ := begs_spec s.data.toList k (by omega)
      have sp2 := cnt_le (s.data.toList.take k)
      rw [List.length_take] at sp2
      have hlk : (begs s.data.toList k).length ≤ 1048577 := by omega
      by_cases hc : s[k]'hkn = 10
      · have hbg := Lib.hid (begs_nl s.data.toList k hkl (by rw [hb]; exact hc))
        have t1 : (((s[k]'hkn).toNat : Int) == 10) = true := by rw [hc]; rfl
        clear hb sp1 sp2 hc hkl
        go_wp2_with (at_builtin; refine wpList_append_own_at _ rfl (.tmp 16) (.tmp 19) _ rfl w.heap.size 3 i0 _ 1 8 Try.underlying87 hi0 hz0 hz1 hz2 rfl (by omega) _ (begs s.data.toList k).length (numCells (begs s.data.toList k)) rfl ?c0 ⟨wr.heap.size, 0, none⟩ 1 1 (numCells [k + 1]) rfl rfl ?c1 (numCells_one _) ?c2 ?c3 ?c4 ?_)
        case c0 => exact hown'.out.alloc _
        case c1 => exact cell_num wr (k + 1)
        case c2 => simp only [maxLen]; omega
        case c3 => omega
        case c4 => have := S'.out; simp; omega
        intro v2 w2 hown2 hg2 hnil2 hat2
        have L2 := Lib.hid ((L'.out.alloc S'.out _).grown hg2 (by have := S'.out; simp; omega) (fun g hg => by have := (hown'.out.lt g hg).1; exact this))
        have S2 : w.heap.size ≤ w2.heap.size := by have := hg2.size; have := S'.out; simp at *; omega
        rw [← numCells_append, ← hbg.out] at hown2
        have hll : (begs s.data.toList k).length + 1 = (begs s.data.toList (k + 1)).length := by rw [hbg.out]; simp
        rw [hll] at hown2
        clear hg2 hnil2 hat2 hll
        have hown2' := Lib.hid hown2; clear hown2
        have S2' := Lib.hid S2; clear S2
        go_wp2
        exact ⟨⟨k + 1, by omega, by go_num, hown2'.out, L2.out, S2'.out⟩, by simp [intOf]; omega⟩
      · have hbg := Lib.hid (begs_other s.data.toList k hkl (by rw [hb]; exact hc))
        have t1 : (((s[k]'hkn).toNat : Int) == 10) = false := by
          rw [beq_eq_false_iff_ne]; intro e; exact hc (UInt8.toNat_inj.1 (by have e10 : (10 : UInt8).toNat = 10 := rfl; omega))
        clear hb sp1 sp2 hc hkl
        go_wp2
        exact ⟨⟨k + 1, by omega, by go_num, by rw [hbg.out]; exact hown'.out, L'.out, S'.out⟩, by simp [intOf]; omega⟩
    · obtain rfl : k = s.size := by omega
      have sp := (begs_spec s.data.toList s.size (by rw [hlen'.out]; omega)).1
      rw [← hlen'.out, List.take_length] at sp
      rw [hlen'.out] at sp
      obtain ⟨g, cap, hv, hcap⟩ := ownsCap' hown'.out (by omega)
      have hcell := (fun j u hu => hown'.out.cells (g := g) (by rw [hv]; rfl) j u hu)
      have hlt := (hown'.out.lt g (by rw [hv]; rfl)).2
      have hcell' := Lib.hid hcell; clear hcell
      rw [sp] at hv hcap
      subst hv
      have sp' := Lib.hid sp; clear sp
      go_wp2
      go_ret
      refine ⟨g, cap, rfl, hcap, fun k b hb => ?_, hlt, L'.out⟩
      have h1 := hcell'.out k (.int .i64 (b : Int)) (by
        rw [hlen'.out] at hb
        unfold numCells; rw [List.getElem?_map, hb]; rfl)
      cases k with
      | zero => simpa [Addr.add] using h1
      | succ k => simpa [Addr.add] using h1
end Go.Proofs.Ytagjeckgfjddmaa
