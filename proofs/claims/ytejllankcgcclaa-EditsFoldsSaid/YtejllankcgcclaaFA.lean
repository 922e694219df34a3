/- The lists' small functions: SameErrnos. -/
import Derived.Test.YtejllankcgcclaaEK
import Derived.Test.YtejllankcgcclaaWords
import Derived.LoopTactic
namespace Go.Proofs.Ytejllankcgcclaa
open Go.RowKit
set_option linter.unusedVariables false

def ints (l : List Int) : List Value := l.map (.int .i64)

theorem same_ints (A D : Option Addr) (n c d : Nat) (xs : List Int) (M : Nat) (w : World) (ha : Reads w M 1 A n (ints xs)) (hd : Reads w M 1 D n (ints xs)) (hn : n ≤ 9223372036854775807) :
    Calls Try.prog 22 #[.slice A n c, .slice D n d] w fun r w' => r = .returned (.bool true) ∧ Below w.heap.size w w' := by
  have hlen : xs.length = n := by have := ha.1; simpa [ints] using this
  have ha' := Lib.hid ha; clear ha
  have hd' := Lib.hid hd; clear hd
  go_enter Try.func22, Try.ntmps22
  go_wp2_with fail
  go_loopw [5] (fun i wr => ∃ k q : Nat, k ≤ n ∧ i = .int .i64 k ∧ wr = w.drewN q) (fun i _ => n - (intOf i).toNat)
  case atStart => exact ⟨0, 0, Nat.zero_le _, rfl, rfl⟩
  case round =>
    obtain ⟨k, q, hk, rfl, rfl⟩ := hrel
    by_cases hkn : k < n
    · obtain ⟨p, u, hA, _, hu, hcp⟩ := ha'.out.at_ hkn
      obtain ⟨p2, u2, hD, _, hu2, hcp2⟩ := hd'.out.at_ hkn
      subst hA hD
      have hx : (ints xs)[k]? = some (.int .i64 (xs[k]'(by omega))) := by simp [ints]
      obtain rfl : u = _ := Option.some.inj (hu.symm.trans hx)
      obtain rfl : u2 = _ := Option.some.inj (hu2.symm.trans hx)
      clear hu hu2 hx
      obtain ⟨z, hz⟩ : ∃ z, xs[k]'(by omega) = z := ⟨_, rfl⟩
      rw [hz] at hcp hcp2
      clear hz
      have i1 : (k : Int) < (n : Int) := by omega
      go_wp2_with fail

      go_quiet (fail)
      go_wp2

      exact ⟨⟨k + 1, q + nq, by omega, by go_num, rfl⟩, by simp [intOf]; omega⟩
    · go_wp2
      go_ret
      exact ⟨rfl, below_drewN (Below.refl _ _) _⟩
/-- An edit's three cells, and a list's. -/
abbrev Ed := Int × Int × ByteArray
def cellE (x : Ed) : List Value := [.int .i64 x.1, .int .i64 x.2.1, .string x.2.2]
def cellsE (l : List Ed) : List Value := l.flatMap cellE
theorem cellsE_length (l : List Ed) : (cellsE l).length = l.length * 3 := by
  induction l with
  | nil => rfl
  | cons x l ih => simp [cellsE, cellE] at ih ⊢; omega
theorem cellsE_at (l : List Ed) (k j : Nat) (x : Ed) (hx : l[k]? = some x) (hj : j < 3) : (cellsE l)[k * 3 + j]? = (cellE x)[j]? := by
  induction l generalizing k with
  | nil => simp at hx
  | cons y l ih =>
    cases k with
    | zero =>
      simp at hx
      subst hx
      simp only [cellsE, List.flatMap_cons]
      rw [List.getElem?_append_left (by simp [cellE]; omega)]
      simp
    | succ k =>
      simp only [cellsE, List.flatMap_cons]
      rw [List.getElem?_append_right (by simp [cellE]; omega)]
      have := ih k (by simpa using hx)
      rw [cellsE] at this
      rw [← this]
      congr 1
      simp [cellE]
      omega

theorem Reads.at3 {w : World} {M n : Nat} {A : Option Addr} {l : List Ed} (h : Reads w M 3 A n (cellsE l)) {k : Nat} (hk : k < n) :
    ∃ b off, A = some ⟨b, off, none⟩ ∧ b < M ∧ ∃ (s e : Int) (t : ByteArray), l[k]? = some (s, e, t) ∧ w.cell? ⟨b, off + k * 3, none⟩ = some (.int .i64 s) ∧ w.cell? ⟨b, off + k * 3 + 1, none⟩ = some (.int .i64 e) ∧ w.cell? ⟨b, off + k * 3 + 2, none⟩ = some (.string t) := by
  obtain ⟨ad, hA, hb, hc⟩ := h.2 (by omega)
  have hl : l.length = n := by have := h.1; rw [cellsE_length] at this; omega
  have hx : l[k]? = some l[k] := List.getElem?_eq_getElem (by omega)
  obtain ⟨⟨s, e, t⟩, hv⟩ : ∃ x, l[k] = x := ⟨_, rfl⟩
  rw [hv] at hx
  have g0 := hc (k * 3 + 0) (.int .i64 s) (by rw [cellsE_at l k 0 _ hx (by omega)]; rfl)
  have g1 := hc (k * 3 + 1) (.int .i64 e) (by rw [cellsE_at l k 1 _ hx (by omega)]; rfl)
  have g2 := hc (k * 3 + 2) (.string t) (by rw [cellsE_at l k 2 _ hx (by omega)]; rfl)
  have g := hc 0 (.int .i64 (l[0]'(by omega)).1) ((cellsE_at l 0 0 _ (List.getElem?_eq_getElem (by omega)) (by omega)).trans rfl)
  obtain ⟨b, off, spot⟩ := ad
  have hspot : spot = none := by
    have := World.cell?_spot g
    simpa [Addr.add] using this
  subst hspot
  refine ⟨b, off, hA, hb, s, e, t, hx, ?_, ?_, ?_⟩
  · cases k with
    | zero => simpa [Addr.add] using g0
    | succ k => simpa [Addr.add] using g0
  · simpa [Addr.add, Nat.add_assoc] using g1
  · simpa [Addr.add, Nat.add_assoc] using g2

theorem same_edits (A D : Option Addr) (n c d : Nat) (l : List Ed) (M : Nat) (w : World) (ha : Reads w M 3 A n (cellsE l)) (hd : Reads w M 3 D n (cellsE l)) (hn : n ≤ 9223372036854775807) :
    Calls Try.prog 36 #[.slice A n c, .slice D n d] w fun r w' => r = .returned (.bool true) ∧ Below w.heap.size w w' := by
  have ha' := Lib.hid ha; clear ha
  have hd' := Lib.hid hd; clear hd
  go_enter Try.func36, Try.ntmps36
  go_wp2_with fail
  go_loopw [5] (fun i wr => ∃ k q : Nat, k ≤ n ∧ i = .int .i64 k ∧ wr = w.drewN q) (fun i _ => n - (intOf i).toNat)
  case atStart => exact ⟨0, 0, Nat.zero_le _, rfl, rfl⟩
  case round =>
    obtain ⟨k, q, hk, rfl, rfl⟩ := hrel
    by_cases hkn : k < n
    · obtain ⟨p, o1, hA, _, s, e, t, hx, c0, c1, c2⟩ := ha'.out.at3 hkn
      obtain ⟨p2, o2, hD, _, s2, e2, t2, hx2, d0, d1, d2⟩ := hd'.out.at3 hkn
      subst hA hD
      obtain ⟨rfl, rfl, rfl⟩ : s2 = s ∧ e2 = e ∧ t2 = t := by rw [hx] at hx2; simpa [eq_comm] using hx2
      clear hx hx2
      have i1 : (k : Int) < (n : Int) := by omega
      go_wp2_with fail
      go_quiet (fail)
      go_wp2
      exact ⟨⟨k + 1, q + nq, by omega, by go_num, rfl⟩, by simp [intOf]; omega⟩
    · go_wp2
      go_ret
      exact ⟨rfl, below_drewN (Below.refl _ _) _⟩
end Go.Proofs.Ytejllankcgcclaa
