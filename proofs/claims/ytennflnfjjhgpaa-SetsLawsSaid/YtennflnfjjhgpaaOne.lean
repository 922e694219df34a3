/- The document's One and Bad: a byte of a class at a place. -/
import Derived.Test.YtennflnfjjhgpaaProg
import Derived.Test.YtennflnfjjhgpaaSm
import Derived.Test.YtennflnfjjhgpaaTxt2
import Derived.WalkKit
import Derived.WalkLawsBesides
import Derived.WalkSpells
import Derived.Outline
import Derived.Lib.Walk
import Derived.Lib.Hide
import Derived.RegionTactic
import Derived.LoopTactic
import Derived.Below
import Derived.IntWalk
import Derived.Lib.Slices
import Derived.Lib.Strings
import Derived.Deep.QuietTactic
import Derived.BigQuiet
namespace Go.Proofs.Ytennflnfjjhgpaa
set_option linter.unusedSimpArgs false
set_option linter.unusedVariables false
open Go.RowKit

def one3 (c : UInt8) (m : Int) (b : Bool) : Ending := .returned (.tuple #[.int .u8 c.toNat, .int .i64 m, .bool b])
def OneR (s : ByteArray) (n : Nat) (w : World) (e : Ending) (w' : World) : Prop := Below w.heap.size w w' ∧
  match one (s.data.toList.drop n) with
  | some (c, q) => ∃ m : Nat, n < m ∧ m ≤ s.size ∧ q = s.data.toList.drop m ∧ e = one3 c m true
  | none => ∃ (c : UInt8) (m : Nat), e = one3 c m false
theorem drop_at (s : ByteArray) (n : Nat) (h : n < s.size) : s.data.toList.drop n = s[n] :: s.data.toList.drop (n + 1) := by
  have hl : n < s.data.toList.length := by simpa using h
  rw [List.drop_eq_getElem_cons hl]; rfl
theorem drop_end (s : ByteArray) (n : Nat) (h : s.size ≤ n) : s.data.toList.drop n = [] := List.drop_eq_nil_of_le (by simpa using h)
theorem one_esc' (d : UInt8) (q : List UInt8) : one (92 :: d :: q) = (mt d).map fun x => (x, q) := by simp [one]
theorem one_oth' (c : UInt8) (r : List UInt8) (h : c ≠ 92) : one (c :: r) = if sp c then none else some (c, r) := by simp [one, h]
theorem OneR.none {s : ByteArray} {n : Nat} {w w' : World} {e : Ending} (h : one (s.data.toList.drop n) = none) (hb : Below w.heap.size w w') (c : UInt8) (m : Nat) (he : e = one3 c m false) : OneR s n w e w' := by
  unfold OneR; rw [h]; exact ⟨hb, c, m, he⟩
theorem OneR.some {s : ByteArray} {n : Nat} {w w' : World} {e : Ending} {c : UInt8} (m : Nat) (h : one (s.data.toList.drop n) = some (c, s.data.toList.drop m)) (hb : Below w.heap.size w w') (h1 : n < m) (h2 : m ≤ s.size) (he : e = one3 c m true) : OneR s n w e w' := by
  unfold OneR; rw [h]; exact ⟨hb, m, h1, h2, rfl, he⟩
set_option maxHeartbeats 4000000 in
theorem one_any (s : ByteArray) (n : Nat) (hs : s.size ≤ 140737488355328) (hn : n ≤ s.size) (w : World) :
    Calls Try.prog 42 #[.string s, .int .i64 n] w (OneR s n w) := by
  by_cases h1 : s.size ≤ n
  · have hN := Lib.hid (show one (s.data.toList.drop n) = none by rw [drop_end s n h1]; rfl)
    go_enter Try.func42, Try.ntmps42
    go_wp2
    go_ret3
    exact OneR.none hN.out (Below.refl _ _) 0 n rfl
  · have hlt : n < s.size := by omega
    have hd := drop_at s n hlt
    by_cases hc : s[n] = 92
    · have e0 : ((s[n].toNat : Int) != 92) = false := by rw [hc]; rfl
      have e0' : ((s[n].toNat : Int) == 92) = true := by rw [hc]; rfl
      rw [hc] at hd
      by_cases h2 : s.size ≤ n + 1
      · have hN := Lib.hid (show one (s.data.toList.drop n) = none by rw [hd, drop_end s (n + 1) h2]; simp [one])
        clear hd hc
        go_enter Try.func42, Try.ntmps42
        go_wp2
        go_ret3
        exact OneR.none hN.out (Below.refl _ _) 0 n rfl
      · have hlt2 : n + 1 < s.size := by omega
        have hd2 := drop_at s (n + 1) hlt2
        rw [hd2] at hd
        have hO := one_esc' s[n + 1] (s.data.toList.drop (n + 1 + 1))
        rw [← hd] at hO
        have HO := Lib.hid hO
        have hsp := Lib.hid (special_any s[n + 1])
        clear hO hd hd2 hc
        by_cases k1 : s[n + 1] = 110
        · have e1 : ((s[n + 1].toNat : Int) == 110) = true := by rw [k1]; rfl
          have HN := Lib.hid (show one (s.data.toList.drop n) = Option.some (10, s.data.toList.drop (n + 2)) by rw [HO.out, k1]; rfl)
          clear k1
          go_enter Try.func42, Try.ntmps42
          go_wp2
          go_ret3
          exact OneR.some (n + 2) HN.out (Below.refl _ _) (by omega) (by omega) rfl
        · have e1 : ((s[n + 1].toNat : Int) == 110) = false := neqU _ 110 (by omega) k1
          by_cases k2 : s[n + 1] = 116
          · have e2 : ((s[n + 1].toNat : Int) == 116) = true := by rw [k2]; rfl
            have HN := Lib.hid (show one (s.data.toList.drop n) = Option.some (9, s.data.toList.drop (n + 2)) by rw [HO.out, k2]; rfl)
            clear k1 k2
            go_enter Try.func42, Try.ntmps42
            go_wp2
            go_ret3
            exact OneR.some (n + 2) HN.out (Below.refl _ _) (by omega) (by omega) rfl
          · have e2 : ((s[n + 1].toNat : Int) == 116) = false := neqU _ 116 (by omega) k2
            by_cases k3 : s[n + 1] = 114
            · have e3 : ((s[n + 1].toNat : Int) == 114) = true := by rw [k3]; rfl
              have HN := Lib.hid (show one (s.data.toList.drop n) = Option.some (13, s.data.toList.drop (n + 2)) by rw [HO.out, k3]; rfl)
              clear k1 k2 k3
              go_enter Try.func42, Try.ntmps42
              go_wp2
              go_ret3
              exact OneR.some (n + 2) HN.out (Below.refl _ _) (by omega) (by omega) rfl
            · have e3 : ((s[n + 1].toNat : Int) == 114) = false := neqU _ 114 (by omega) k3
              have hmt : mt s[n + 1] = if sp s[n + 1] then Option.some s[n + 1] else Option.none := by simp [mt, k1, k2, k3]
              rw [hmt] at HO
              clear hmt k1 k2 k3
              cases hs5 : sp s[n + 1]
              · rw [hs5] at HO hsp
                clear hs5
                go_enter Try.func42, Try.ntmps42
                go_wp2_with fail
                refine (hsp.out _).mono ?_
                rintro _ _ ⟨rfl, rfl⟩
                go_wp2
                go_ret3
                exact OneR.none HO.out (Below.refl _ _) 0 n rfl
              · rw [hs5] at HO hsp
                clear hs5
                go_enter Try.func42, Try.ntmps42
                go_wp2_with fail
                refine (hsp.out _).mono ?_
                rintro _ _ ⟨rfl, rfl⟩
                go_wp2
                go_ret3
                exact OneR.some (n + 2) HO.out (Below.refl _ _) (by omega) (by omega) rfl
    · have e0 : ((s[n].toNat : Int) != 92) = true := by
        have h9 : ((s[n].toNat : Int) == 92) = false := neqU s[n] 92 (by omega) hc
        rw [bne, h9]; rfl
      have e0' : ((s[n].toNat : Int) == 92) = false := neqU _ 92 (by omega) hc
      have hO := one_oth' s[n] (s.data.toList.drop (n + 1)) hc
      rw [← hd] at hO
      have HO := Lib.hid hO
      have hsp := Lib.hid (special_any s[n])
      clear hO hd hc
      have j0 : (0 : Int) ≤ (n : Int) := by omega
      have j1 : (n : Int) < (s.size : Int) := by omega
      cases hs5 : sp s[n]
      · rw [hs5] at HO hsp
        clear hs5
        go_enter Try.func42, Try.ntmps42
        go_wp2_with fail
        have j2 : IntKind.i64.wrap ((n : Int) + 1) = (n : Int) + 1 := IntWalk.i64_in _ (by omega)
        go_quiet ((go_at_call 47; exact Calls.quiet_of_same ((hsp.out _).mono fun e w' h => ⟨h.1, h.2.symm⟩)))
        clear j2
        go_wp2
        go_ret3
        exact OneR.some (n + 1) HO.out (below_drewN (Below.refl _ _) _) (by omega) (by omega) rfl
      · rw [hs5] at HO hsp
        clear hs5
        go_enter Try.func42, Try.ntmps42
        go_wp2_with fail
        have j2 : IntKind.i64.wrap ((n : Int) + 1) = (n : Int) + 1 := IntWalk.i64_in _ (by omega)
        go_quiet ((go_at_call 47; exact Calls.quiet_of_same ((hsp.out _).mono fun e w' h => ⟨h.1, h.2.symm⟩)))
        clear j2
        go_wp2
        go_ret3
        exact OneR.none HO.out (below_drewN (Below.refl _ _) _) s[n] (n + 1) rfl
def BadP (w : World) (e : Ending) (w' : World) : Prop := ∃ m : Nat, e = .returned (.int .i64 m) ∧ w = w'
theorem bad_any (s : ByteArray) (n : Nat) (hs : s.size ≤ 140737488355328) (hn : n ≤ s.size) (w : World) : Calls Try.prog 43 #[.string s, .int .i64 n] w (BadP w) := by
  by_cases h1 : s.size ≤ n
  · have hq : decide ((n : Int) < (s.size : Int)) = false := by simpa using h1
    have hq' : ¬ n < s.size := by omega
    go_enter Try.func43, Try.ntmps43
    go_wp2
    go_ret
    exact ⟨n, rfl, rfl⟩
  · have hlt : n < s.size := by omega
    cases hc : ((s[n].toNat : Int) == 92)
    · go_enter Try.func43, Try.ntmps43
      go_wp2
      go_ret
      exact ⟨n, rfl, rfl⟩
    · go_enter Try.func43, Try.ntmps43
      go_wp2
      go_ret
      exact ⟨n + 1, rfl, rfl⟩
end Go.Proofs.Ytennflnfjjhgpaa
