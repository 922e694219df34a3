import Derived.Test.YtmjojahkbjlcdaaDoorProg
import Derived.Test.YtmjojahkbjlcdaaDoorX3
import Derived.Test.YtmjojahkbjlcdaaDoorX4
import Derived.WalkKit
import Derived.WalkLawsBesides
import Derived.WalkSpells
import Derived.Outline
import Derived.Lib.Walk
import Derived.Lib.Hide
import Derived.RegionTactic
import Derived.LoopTactic
import Derived.Below
import Derived.IntWalk
import Derived.Deep.QuietTactic
import Derived.BigQuiet
import Derived.Test.YtmjojahkbjlcdaaDoorG66
import Derived.Test.YtmjojahkbjlcdaaDoorG59
import Derived.Test.YtmjojahkbjlcdaaDoorG63
namespace Go.Proofs.YtmjojahkbjlcdaaDoor
set_option linter.unusedSimpArgs false
set_option linter.unusedVariables false
set_option maxRecDepth 100000
open Go.RowKit

/- RegsParts, whatever it is called with; a pattern as an argument. -/
open Go.ChangeShapes Go.WideShapes in
theorem open_reg {H : Type} {enc : TypeId × Value → H} {w : World} {r : Reach} {b0 : Nat} {held : Bool} {v : Value} {d : DataW H} {p : List MemPlace} (hv : Value.okWide Tryd.prog w r b0 27 v) (h : DataW.Trod enc Tryd.prog w 0 (fun _ => true) held 27 v d p) (hw : ∀ n ∈ d.weights Tryd.prog 27, n ≤ reachBytes) :
    ∃ (t : RT) (k : Int) (u : Nat → Int) (q : Option Addr) (n c : Nat), v = .agg #[.int .i64 k, .int .u64 (u 0), .int .u64 (u 1), .int .u64 (u 2), .int .u64 (u 3), .slice q n c] ∧ RV (fun b => b < w.heap.size) w t (.agg (nodeC k u (.slice q n c))) ∧ okT t ∧ wid t ≤ 9223372036854775806 := by
  obtain ⟨cs, rfl⟩ : ∃ cs, v = .agg cs := by
    have := hv
    simp [Value.okWide, Tryd.underlying27] at this
    obtain ⟨cs, h1, _⟩ := this
    exact ⟨cs, h1⟩
  obtain ⟨fuel, hf⟩ := h
  obtain ⟨t, ht, h2, h3, h4⟩ := tree_open fuel fuel (Nat.le_refl _) hf hw
  have e : (Value.agg cs).cells.toList.toArray = cs := by simp [Value.cells]
  rw [e] at ht
  obtain ⟨k, u, q, n, c, hk⟩ := ht.form
  have hcs : cs = nodeC k u (.slice q n c) := by injection hk
  subst hcs
  exact ⟨t, k, u, q, n, c, rfl, ht, h3, h2⟩
theorem check_two {k : Int} {t1 t2 : RT} (h : checkE (.mk k u0 [t1, t2]) = 0) : checkE t1 = 0 ∧ checkE t2 = 0 := by
  obtain ⟨h1, h2, h3⟩ := checkE_ok h
  rw [mayB, Bool.and_eq_true, mayL, mayL, Bool.and_eq_true, Bool.and_eq_true, mayL, Bool.and_true] at h1
  simp only [sz, szL] at h2
  simp only [dep, depL] at h3
  constructor
  · unfold checkE
    rw [if_neg (by omega), if_neg (by omega), if_pos h1.2.1]
  · unfold checkE
    rw [if_neg (by omega), if_neg (by omega), if_pos h1.2.2]
theorem check_34 (t1 t2 : RT) : checkE (.mk 4 u0 [t1, t2]) = checkE (.mk 3 u0 [t1, t2]) := by
  unfold checkE
  have e : mayB (.mk 4 u0 [t1, t2]) = mayB (.mk 3 u0 [t1, t2]) := by
    rw [mayB, mayB]; rfl
  rw [e]
  rfl
theorem mtP_err {t : RT} {x : List UInt8} (h : checkE t ≠ 0) : mtP t x = (false, checkE t) := by
  unfold mtP; rw [if_pos h]
theorem wid_two {k : Int} {u : Nat → Int} {t1 t2 : RT} (h1 : wid t1 ≤ 9223372036854775806) (h2 : wid t2 ≤ 9223372036854775806) : wid (.mk k u [t1, t2]) ≤ 9223372036854775806 := by
  simp only [wid, widL, List.length_cons, List.length_nil]; omega
theorem ok_two {k : Int} {t1 t2 : RT} (hk : k ≠ 2) (h1 : okT t1) (h2 : okT t2) : okT (.mk k u0 [t1, t2]) := by
  rw [okT, okL, okL, okL]; exact ⟨fun e => absurd e hk, h1, h2, trivial⟩
theorem wid_one {k : Int} {u : Nat → Int} {t1 : RT} (h1 : wid t1 ≤ 9223372036854775806) : wid (.mk k u [t1]) ≤ 9223372036854775806 := by
  simp only [wid, widL, List.length_cons, List.length_nil]; omega
theorem ok_one {k : Int} {t1 : RT} (hk : k ≠ 2) (h1 : okT t1) : okT (.mk k u0 [t1]) := by
  rw [okT, okL, okL]; exact ⟨fun e => absurd e hk, h1, trivial⟩
theorem parts_any {t1 t2 : RT} (s : ByteArray) {w : World} {ka kb : Int} {ua ub : Nat → Int} {pa pb : Option Addr} {na ca nb cb : Nat} (hw0 : 0 < w.heap.size) (hT : Tb w) (V1 : RV (fun b => b < w.heap.size) w t1 (.agg (nodeC ka ua (.slice pa na ca)))) (V2 : RV (fun b => b < w.heap.size) w t2 (.agg (nodeC kb ub (.slice pb nb cb))))
    (o1 : okT t1) (o2 : okT t2) (d1 : wid t1 ≤ 9223372036854775806) (d2 : wid t2 ≤ 9223372036854775806) :
    Calls Tryd.prog 9 #[.agg #[.int .i64 ka, .int .u64 (ua 0), .int .u64 (ua 1), .int .u64 (ua 2), .int .u64 (ua 3), .slice pa na ca], .agg #[.int .i64 kb, .int .u64 (ub 0), .int .u64 (ub 1), .int .u64 (ub 2), .int .u64 (ub 3), .slice pb nb cb], .string s] w fun e w' => e = .returned (.bool true) ∧ Below w.heap.size w w' := by
  rw [← bs_list5 s]
  generalize s.data.toList = x
  by_cases h3 : 60 < x.length
  · exact parts_long hw0 hT V1 V2 o1 o2 d1 d2 h3
  · by_cases q1 : 60 < sz t1
    · exact parts_big1 hw0 hT V1 V2 o1 o2 d1 d2 (by omega) (by simpa using q1)
    · by_cases q2 : 60 < sz t2
      · exact parts_big2 hw0 hT V1 V2 o1 o2 d1 d2 (by omega) (by simpa using q1) (by simpa using q2)
      · have q1' : decide (60 < sz t1) = false := by simpa using q1
        have q2' : decide (60 < sz t2) = false := by simpa using q2
        have o3 : okT (.mk 3 u0 [t1, t2]) := ok_two (by decide) o1 o2
        have o4 : okT (.mk 4 u0 [t1, t2]) := ok_two (by decide) o1 o2
        have d3 : wid (.mk 3 u0 [t1, t2]) ≤ 9223372036854775806 := wid_two d1 d2
        have d4 : wid (.mk 4 u0 [t1, t2]) ≤ 9223372036854775806 := wid_two d1 d2
        by_cases hc : checkE (.mk 3 u0 [t1, t2]) = 0
        · have hc4 : checkE (.mk 4 u0 [t1, t2]) = 0 := by rw [check_34]; exact hc
          obtain ⟨C1, C2⟩ := check_two hc
          exact parts_ok (r1 := matB t1 x) (r2 := matB t2 x) (r3 := true) (r4 := true) hw0 hT V1 V2 o1 o2 d1 d2 (by omega) q1' q2' o3 o4 d3 d4 C1 C2 (by rw [match_ok hc (by omega), two_mat hc C1 C2]) (by rw [match_ok hc4 (by omega), or_mat hc4 C1 C2]) (match_ok C1 (by omega)) (match_ok C2 (by omega))
        · exact parts_err (r1 := (mtP t1 x).1) (r2 := (mtP t2 x).1) (r3 := false) (r4 := false) hw0 hT V1 V2 o1 o2 d1 d2 (by omega) q1' q2' o3 o4 d3 d4 (E := checkE (.mk 3 u0 [t1, t2])) (E1 := (mtP t1 x).2) (E2 := (mtP t2 x).2) (by rw [bne_iff_ne]; exact hc) (mtP_err hc) (by rw [← check_34]; exact mtP_err (by rw [check_34]; exact hc)) rfl rfl
end Go.Proofs.YtmjojahkbjlcdaaDoor
