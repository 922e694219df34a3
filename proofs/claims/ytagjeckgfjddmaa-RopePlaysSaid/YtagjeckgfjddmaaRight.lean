/- Leaves of a rope as texts; how high a rope may be; right: the leaves are the text's, the tree is balanced. -/
import Derived.Test.YtagjeckgfjddmaaNil
namespace Go.Proofs.Ytagjeckgfjddmaa
set_option linter.unusedSimpArgs false
set_option linter.unusedVariables false
open Go.RowKit

def lfTxt (x : Lf) : Value := .string x.2
def txts (l : List Lf) : List Value := l.map lfTxt
theorem txts_length (l : List Lf) : (txts l).length = l.length := List.length_map ..
theorem txts_one (x : Lf) : ∀ u ∈ txts [x], u.oneCell' = true := by
  intro u hu
  obtain ⟨x, -, rfl⟩ := List.mem_map.1 hu
  rfl
theorem txts_app (a b : List Lf) : txts (a ++ b) = txts a ++ txts b := List.map_append ..
theorem info9 : (Try.prog.info? 9).map (fun i => (i.zero, i.size, i.bytes)) = some (some (.string .empty), 1, 16) := by kernel_rfl
/-- A row of leaves' texts, in memory of its own. -/
def TxtMade (w : World) (l : List Lf) (e : Ending) (w' : World) : Prop := ∃ v, e = .returned v ∧ w'.ownsRow w.heap.size 9 1 v l.length (txts l) ∧ Below w.heap.size w w'
theorem ptrs_get2 {l : List Lf} {k : Nat} {u : Value} (h : (ptrs l)[k]? = some u) : ∃ x, u = ptr x.1 ∧ l[k]? = some x := by
  unfold ptrs at h
  rw [List.getElem?_map] at h
  cases e : l[k]? with
  | none => rw [e] at h; cases h
  | some x => rw [e] at h; exact ⟨x, (Option.some.inj h).symm, rfl⟩
theorem RepO.leaf {w : World} {o : Option T} (h : RepO w o) {k : Nat} {x : Lf} (hx : (lvs o)[k]? = some x) : Rep w (.leaf x.1 x.2) := by
  cases o with
  | none => simp [lvs] at hx
  | some t => exact Rep.leafOf h (List.mem_of_getElem? hx)

set_option maxHeartbeats 2000000 in
theorem leaves_made (b : Nat) (o : Option T) (w : World) (hr : RopeAt w b o) (hl : (lvs o).length ≤ 100000) :
    Calls Try.prog 15 #[ptr b] w (TxtMade w (lvs o)) := by
  obtain ⟨i0, hi0, hz0, hz1, hz2⟩ := info_parts info9
  have t1 := Lib.hid (top_made b o w hr)
  have l1 := Lib.hid (leaves_any o w hr.2.2.2 (by omega))
  have lf := Lib.hid (fun wz (h : Below w.heap.size w wz) (k : Nat) (x : Lf) (hx : (lvs o)[k]? = some x) => (RepO.leaf (hr.below h).2.2.2 hx).1)
  generalize lvs o = l at *
  clear hr
  go_enter Try.func15, Try.ntmps15
  go_wp2_with fail
  refine t1.out.mono ?_
  rintro _ _ ⟨rfl, rfl⟩
  go_wp2_with fail
  refine l1.out.mono ?_
  rintro _ w1 ⟨v1, rfl, hq1⟩
  obtain ⟨A, c, rfl⟩ := owns_slice hq1.1
  have r1 := Lib.hid (Reads.of_own hq1.1)
  have hL := Lib.hid hq1.2
  obtain ⟨n, hn⟩ : ∃ n, l.length = n := ⟨_, rfl⟩
  rw [hn] at r1 hl ⊢
  have hn' := Lib.hid hn
  clear hq1 hn
  go_wp2_with fail
  go_loopw [3, 10] (fun v i wr => ∃ k : Nat, k ≤ n ∧ i = .int .i64 k ∧ wr.ownsRow w1.heap.size 9 1 v k (txts (l.take k)) ∧ Below w1.heap.size w1 wr) (fun _ i _ => n - (intOf i).toNat)
  case atStart => exact ⟨0, Nat.zero_le _, rfl, World.ownsRow_nil _ _ _ _, Below.refl _ _⟩
  case round =>
    obtain ⟨k, hk, rfl, hown, hB⟩ := hrel
    have hown' := Lib.hid hown
    have hB' := Lib.hid hB
    clear hown hB
    by_cases hkn : k < n
    · obtain ⟨p, u, hA, _, hu, hc⟩ := (r1.out.below hB'.out).at_ hkn
      obtain ⟨x, rfl, hx⟩ := ptrs_get2 hu
      obtain ⟨a0, a1, a2, a3, a4, a5, a6, az⟩ := lf.out wr (hL.out.trans (hB'.out.mono hL.out.size)) k x hx
      subst hA
      have htk := Lib.hid (show l.take (k + 1) = l.take k ++ [x] by rw [List.take_add_one, hx]; rfl)
      have i1 : (k : Int) < (n : Int) := by omega
      have hsz := hB'.out.size
      clear hu hx a0 a1 a3 a4 a5 a6
      go_wp2_with (at_builtin; refine wpList_append_any _ rfl (.tmp 14) (.tmp 19) _ rfl w1.heap.size 9 i0 _ 1 16 Try.underlying28 hi0 hz0 hz1 hz2 rfl (by omega) _ k (txts (l.take k)) rfl (hown'.out.alloc _) (wr.heap.size + 1) (some ⟨wr.heap.size, 0, none⟩) 1 1 (txts [x]) rfl (reads_cell wr _ _) (txts_one x) (by simp only [maxLen]; omega) (by omega) (by simp; omega) ?_; intro v2 w2 hown2 hg2 hat2)
      have L2 : Below w1.heap.size w1 w2 := (hB'.out.alloc hsz _).grown hg2 (by simp; omega) (fun g hg => by have := (hown'.out.lt g hg).1; exact this)
      rw [← txts_app, ← htk.out] at hown2
      have hown2' := Lib.hid hown2
      have L2' := Lib.hid L2
      clear hown2 hg2 hat2 L2 hc az a2 hsz
      go_wp2
      exact ⟨⟨k + 1, by omega, by go_num, hown2'.out, L2'.out⟩, by simp [intOf]; omega⟩
    · obtain rfl : k = n := by omega
      go_wp2
      go_ret
      have e : l.take k = l := List.take_of_length_le (by rw [hn'.out]; omega)
      have := hown'.out
      rw [e] at this
      exact ⟨_, rfl, by rw [hn'.out]; exact owns_base this hL.out.size, hL.out.trans (hB'.out.mono hL.out.size)⟩

/-- How many bits a number has. -/
theorem high_any (n : Nat) (w : World) (hn : n ≤ 1000000) : Calls Try.prog 41 #[.int .i64 n] w fun e w' => (∃ k : Nat, e = .returned (.int .i64 (2 * (k : Int) + 2)) ∧ n < 2 ^ k ∧ k ≤ 1000000) ∧ w = w' := by
  go_enter Try.func41, Try.ntmps41
  go_wp2
  go_loop [0, 3] (fun v b => ∃ k m : Nat, v = .int .i64 m ∧ b = .int .i64 k ∧ n < (m + 1) * 2 ^ k ∧ m ≤ 1000000 ∧ k + m ≤ 1000000) (fun v _ => (intOf v).toNat)
  case atStart => exact ⟨0, n, rfl, rfl, by simp, hn, by omega⟩
  case round =>
    obtain ⟨k, m, rfl, rfl, h1, h2, h3⟩ := hrel
    have h1' := Lib.hid h1
    clear h1
    by_cases hm : 0 < m
    · go_wp2
      go_round
      case rel =>
        refine ⟨k + 1, m / 2, by go_num, by go_num, ?_, by omega, by omega⟩
        have h1 := h1'.out
        rw [Nat.pow_succ]
        have : (m + 1) * 2 ^ k ≤ (m / 2 + 1) * (2 ^ k * 2) := by
          rw [Nat.mul_comm (2 ^ k) 2, ← Nat.mul_assoc]
          exact Nat.mul_le_mul_right _ (by omega)
        omega
      case measure => simp [intOf]; omega
    · obtain rfl : m = 0 := by omega
      go_wp2
      go_ret
      exact ⟨⟨k, rfl, by have := h1'.out; simpa using this, by omega⟩, rfl⟩
end Go.Proofs.Ytagjeckgfjddmaa
