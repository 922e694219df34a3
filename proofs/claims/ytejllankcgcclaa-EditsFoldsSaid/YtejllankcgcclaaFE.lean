/- An argument that is a list of edits, opened. -/
import Derived.Test.YtejllankcgcclaaFD
import Derived.ProofKit
import Derived.SizedLaws
namespace Go.Proofs.Ytejllankcgcclaa
open Go.RowKit Go.ChangeShapes Go.WideShapes Go.Deep
set_option linter.unusedVariables false

theorem list_of {α : Type} {Q : Nat → α → Prop} : ∀ n : Nat, (∀ i, i < n → ∃ x, Q i x) → ∃ l : List α, l.length = n ∧ ∀ i x, l[i]? = some x → Q i x := by
  intro n
  induction n with
  | zero => intro _; exact ⟨[], rfl, fun i x h => by simp at h⟩
  | succ n ih =>
    intro h
    obtain ⟨l, hl, hq⟩ := ih fun i hi => h i (by omega)
    obtain ⟨x, hx⟩ := h n (by omega)
    refine ⟨l ++ [x], by simp [hl], fun i y hy => ?_⟩
    by_cases hi : i < n
    · rw [List.getElem?_append_left (by omega)] at hy
      exact hq i y hy
    · rw [List.getElem?_append_right (by omega), hl] at hy
      have h0 : i = n := by
        have := (List.getElem?_eq_some_iff.1 hy).1
        simp at this
        omega
      subst h0
      simp at hy
      subst hy
      exact hx

theorem cellsE_split (l : List Ed) (j : Nat) (u : Value) (h : (cellsE l)[j]? = some u) : ∃ x, l[j / 3]? = some x ∧ (cellE x)[j % 3]? = some u := by
  have hj : j < l.length * 3 := by
    have := (List.getElem?_eq_some_iff.1 h).1
    rwa [cellsE_length] at this
  have hk : j / 3 < l.length := by omega
  refine ⟨l[j / 3], List.getElem?_eq_getElem hk, ?_⟩
  have := cellsE_at l (j / 3) (j % 3) _ (List.getElem?_eq_getElem hk) (by omega)
  rw [← this, ← h]
  congr 1
  omega

theorem open_edits {H : Type} {enc : TypeId × Value → H} {W : World} {a : Option Addr} {len cap : Nat} {d : DataW H} {p : List MemPlace} (h : DataW.Trod enc Try.prog W 0 (fun _ => true) true 31 (.slice a len cap) d p) :
    ∃ l : List Ed, Reads W W.heap.size 3 a len (cellsE l) ∧ ∀ e ∈ l, e.2.2.size ≤ 9223372036854775807 := by
  obtain ⟨fuel, hf⟩ := h
  rcases open_slice_fields Try.underlying31 Try.underlying23 (by kernel_rfl) (by kernel_rfl) hf with ⟨hcs, _⟩ | ⟨ad, len', cap', m, D, Pl, hcs, _, hl, hm, hmm, _, hi⟩
  · simp [Value.cells] at hcs
    obtain ⟨rfl, rfl, rfl⟩ := hcs
    exact ⟨[], Reads.none_, fun e he => by simp at he⟩
  · simp [Value.cells] at hcs
    obtain ⟨rfl, rfl, rfl⟩ := hcs
    have hm' : m = cap := by simpa using hmm
    subst hm'
    have key : ∀ i, i < len → ∃ x : Ed, (∀ j u, (cellE x)[j]? = some u → W.cell? (ad.add (i * 3 + j)) = some u) ∧ x.2.2.size ≤ 9223372036854775807 := by
      intro i hil
      obtain ⟨ys, n, _, _, _, hfs⟩ := hi i (by omega)
      obtain ⟨v0, y0, hc0, _, t0⟩ := hfs 0 _ rfl
      obtain ⟨v1, y1, hc1, _, t1⟩ := hfs 1 _ rfl
      obtain ⟨v2, y2, hc2, _, t2⟩ := hfs 2 _ rfl
      obtain ⟨s, e0, -, -⟩ := DataW.trod_int Try.underlying3 t0
      obtain ⟨e, e1, -, -⟩ := DataW.trod_int Try.underlying3 t1
      obtain ⟨t, e2, -, ht⟩ := DataW.trod_string Try.underlying9 t2
      obtain rfl : v0 = _ := by simpa using e0
      obtain rfl : v1 = _ := by simpa using e1
      obtain rfl : v2 = _ := by simpa using e2
      refine ⟨(s, e, t), fun j u hu => ?_, ht⟩
      match j, hu with
      | 0, hu => simp [cellE] at hu; subst hu; exact hc0
      | 1, hu => simp [cellE] at hu; subst hu; exact hc1
      | 2, hu => simp [cellE] at hu; subst hu; exact hc2
    obtain ⟨l, hll, hq⟩ := list_of len key
    refine ⟨l, ⟨by rw [cellsE_length, hll], fun hn => ⟨ad, rfl, ?_, fun j u hu => ?_⟩⟩, fun e he => ?_⟩
    · obtain ⟨x, hx, _⟩ := key 0 hn
      have h0 := hx 0 _ rfl
      exact World.block_lt_of_cell? W _ (by simpa [Addr.add] using h0)
    · obtain ⟨x, hx, hu'⟩ := cellsE_split l j u hu
      have := (hq _ x hx).1 _ u hu'
      rwa [show j / 3 * 3 + j % 3 = j by omega] at this
    · obtain ⟨i, hi'⟩ := List.getElem?_of_mem he
      exact (hq i e hi').2

theorem reach_string {H : Type} {P : Program} {ts : List TypeId} {ds : List (DataW H)} (h : (DataW.weightsEach P ts ds).all (· ≤ reachBytes) = true) {j : Nat} {t : TypeId} {s : ByteArray} (ht : ts[j]? = some t) (hd : ds[j]? = some (.lit (.string s.data.toList))) : s.size ≤ 140737488355328 := by
  have h1 := sized_string h ht hd
  have h2 := reachBytes_lt
  have h3 : s.data.toList.length = s.size := by simp
  omega

theorem folds_all (x : ByteArray) (A : Option Addr) (n c : Nat) (l : List Ed) (w : World) (ha : Reads w w.heap.size 3 A n (cellsE l)) (hx : x.size ≤ 140737488355328) (hs : ∀ e ∈ l, e.2.2.size ≤ 9223372036854775807) :
    Calls Try.prog 5 #[.string x, .slice A n c] w fun r w' => r = .returned (.bool true) ∧ Below w.heap.size w w' := by
  by_cases hn : 300 < n
  · exact folds_long x A n c w hn
  · exact folds_walk x A n c l w ha (by omega) (by omega) hs
end Go.Proofs.Ytejllankcgcclaa
