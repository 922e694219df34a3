import Derived.Test.YtmjojahkbjlcdaaDoorProg
import Derived.Test.YtmjojahkbjlcdaaDoorX3
import Derived.Test.YtmjojahkbjlcdaaDoorX4
import Derived.WalkKit
import Derived.WalkLawsBesides
import Derived.WalkSpells
import Derived.Outline
import Derived.Lib.Walk
import Derived.Lib.Hide
import Derived.RegionTactic
import Derived.LoopTactic
import Derived.Below
import Derived.IntWalk
import Derived.Deep.QuietTactic
import Derived.BigQuiet
import Derived.Test.YtmjojahkbjlcdaaDoorG60
namespace Go.Proofs.YtmjojahkbjlcdaaDoor
set_option linter.unusedSimpArgs false
set_option linter.unusedVariables false
set_option maxRecDepth 100000
open Go.RowKit

/- RegsRow: the walks. -/
def Rst (w : World) (b1 b2 : Nat) (t1 t2 : RT) (y : World) : Prop := PBox b1 t1 y ∧ PBox b2 t2 y ∧ Below w.heap.size w y ∧ Tb y ∧ 0 < y.heap.size
theorem Rst.up {w : World} {b1 b2 : Nat} {t1 t2 : RT} {y z : World} (h : Rst w b1 b2 t1 t2 y) (hb : Below y.heap.size y z) : Rst w b1 b2 t1 t2 z :=
  ⟨h.1.up hb, h.2.1.up hb, h.2.2.1.trans (hb.mono h.2.2.1.size), h.2.2.2.1.mono (hb.block 0 h.2.2.2.2), Nat.lt_of_lt_of_le h.2.2.2.2 hb.size⟩
theorem keepR {b : Nat} {v0 v1 v2 v3 v4 v5 : Value} {y w' w'' : World} (h : w'.cell? ⟨b, 0, none⟩ = some v0 ∧ w'.cell? ⟨b, 1, none⟩ = some v1 ∧ w'.cell? ⟨b, 2, none⟩ = some v2 ∧ w'.cell? ⟨b, 3, none⟩ = some v3 ∧ w'.cell? ⟨b, 4, none⟩ = some v4 ∧ w'.cell? ⟨b, 5, none⟩ = some v5 ∧ b < w'.heap.size ∧ Below y.heap.size y w') (hb : Below w'.heap.size w' w'') :
    w''.cell? ⟨b, 0, none⟩ = some v0 ∧ w''.cell? ⟨b, 1, none⟩ = some v1 ∧ w''.cell? ⟨b, 2, none⟩ = some v2 ∧ w''.cell? ⟨b, 3, none⟩ = some v3 ∧ w''.cell? ⟨b, 4, none⟩ = some v4 ∧ w''.cell? ⟨b, 5, none⟩ = some v5 ∧ b < w''.heap.size ∧ Below y.heap.size y w'' := by
  obtain ⟨h0, h1, h2, h3, h4, h5, hl, hB⟩ := h
  exact ⟨(hb.cell (p := ⟨b, 0, none⟩) hl).trans h0, (hb.cell (p := ⟨b, 1, none⟩) hl).trans h1, (hb.cell (p := ⟨b, 2, none⟩) hl).trans h2, (hb.cell (p := ⟨b, 3, none⟩) hl).trans h3, (hb.cell (p := ⟨b, 4, none⟩) hl).trans h4, (hb.cell (p := ⟨b, 5, none⟩) hl).trans h5, Nat.lt_of_lt_of_le hl hb.size, hB.trans (hb.mono hB.size)⟩
theorem keepR_k {b : Nat} {v0 v1 v2 v3 v4 v5 : Value} {y w' : World} (h : w'.cell? ⟨b, 0, none⟩ = some v0 ∧ w'.cell? ⟨b, 1, none⟩ = some v1 ∧ w'.cell? ⟨b, 2, none⟩ = some v2 ∧ w'.cell? ⟨b, 3, none⟩ = some v3 ∧ w'.cell? ⟨b, 4, none⟩ = some v4 ∧ w'.cell? ⟨b, 5, none⟩ = some v5 ∧ b < w'.heap.size ∧ Below y.heap.size y w') : Below y.heap.size y w' := h.2.2.2.2.2.2.2
set_option maxHeartbeats 8000000 in
theorem row_long {s1 s2 s3 : ByteArray} {w : World} (h : 40 < s1.size ∨ 40 < s2.size ∨ 40 < s3.size) : Calls Tryd.prog 12 #[.string s1, .string s2, .string s3] w fun e w' => e = .returned (.bool true) ∧ Below w.heap.size w w' := by
  have HB := Lib.hid (Below.refl w.heap.size w)
  by_cases h1 : 40 < s1.size
  · have i1 : (40 : Int) < (s1.size : Int) := by omega
    clear h h1
    go_enter Tryd.func12, Tryd.ntmps12
    go_wp2_with fail
    go_ret
    exact ⟨rfl, HB.out⟩
  · have i1 : ¬ (40 : Int) < (s1.size : Int) := by omega
    by_cases h2 : 40 < s2.size
    · have i2 : (40 : Int) < (s2.size : Int) := by omega
      clear h h1 h2
      go_enter Tryd.func12, Tryd.ntmps12
      go_wp2_with fail
      go_ret
      exact ⟨rfl, HB.out⟩
    · have i2 : ¬ (40 : Int) < (s2.size : Int) := by omega
      have i3 : (40 : Int) < (s3.size : Int) := by omega
      clear h h1 h2
      go_enter Tryd.func12, Tryd.ntmps12
      go_wp2_with fail
      go_ret
      exact ⟨rfl, HB.out⟩
set_option maxHeartbeats 8000000 in
theorem row_err {s1 s2 s3 : ByteArray} {t1 t2 t3 t4 : RT} {m1 m2 m3 m4 E1 E2 E3 E4 : Int} {w : World} (h1 : s1.size ≤ 40) (h2 : s2.size ≤ 40) (h3 : s3.size ≤ 40) (hw0 : 0 < w.heap.size) (hT : Tb w)
    (P1 : Hid (∀ w, Calls Tryd.prog 21 #[.string s1] w (PP t1 m1 E1 w))) (P2 : Hid (∀ w, Calls Tryd.prog 21 #[.string s2] w (PP t2 m2 E2 w)))
    (P3 : Hid (∀ w, Calls Tryd.prog 21 #[.string (⟨#[40]⟩ ++ s1 ++ ⟨#[41, 40]⟩ ++ s2 ++ ⟨#[41]⟩)] w (PP t3 m3 E3 w))) (P4 : Hid (∀ w, Calls Tryd.prog 21 #[.string (⟨#[40]⟩ ++ s1 ++ ⟨#[41, 124, 40]⟩ ++ s2 ++ ⟨#[41]⟩)] w (PP t4 m4 E4 w)))
    (hE : (E1 != 0) = true ∨ (E1 = 0 ∧ (E2 != 0) = true) ∨ (E1 = 0 ∧ E2 = 0 ∧ ((E3 = 51 ∧ (E4 = 0 ∨ E4 = 51)) ∨ (E3 = 0 ∧ E4 = 51)))) :
    Calls Tryd.prog 12 #[.string s1, .string s2, .string s3] w fun e w' => e = .returned (.bool true) ∧ Below w.heap.size w w' := by
  have i1 : ¬ (40 : Int) < (s1.size : Int) := by omega
  have i2 : ¬ (40 : Int) < (s2.size : Int) := by omega
  have i3 : ¬ (40 : Int) < (s3.size : Int) := by omega
  have HT := Lib.hid hT
  clear h1 h2 h3 hT
  rcases hE with hE | ⟨rfl, hE⟩ | ⟨rfl, rfl, ⟨rfl, rfl | rfl⟩ | ⟨rfl, rfl⟩⟩
  all_goals
    go_enter Tryd.func12, Tryd.ntmps12
    go_wp2_with fail
    refine (P1.out _).mono ?_
    rintro _ w1 ⟨⟨v, rfl, hv⟩, hb⟩
    obtain ⟨k, u, p, n, c, rfl⟩ := hv.form2
    unfold ret3
    have S1 := Lib.hid ((hb.alloc hb.size (.cells #[.int .i64 k, .int .u64 (u 0), .int .u64 (u 1), .int .u64 (u 2), .int .u64 (u 3), .slice p n c] 27) : Below w.heap.size w _))
    clear hb hv
    go_wp2_with fail
    refine (P2.out _).mono ?_
    rintro _ w2 ⟨⟨v, rfl, hv⟩, hb⟩
    obtain ⟨k, u, p, n, c, rfl⟩ := hv.form2
    unfold ret3
    have S2 := Lib.hid (((S1.out.trans (hb.mono S1.out.size)).alloc (Nat.le_trans S1.out.size hb.size) (.cells #[.int .i64 k, .int .u64 (u 0), .int .u64 (u 1), .int .u64 (u 2), .int .u64 (u 3), .slice p n c] 27) : Below w.heap.size w _))
    clear hb hv S1
    go_wp2_with fail
    refine (P3.out _).mono ?_
    rintro _ w3 ⟨⟨v, rfl, hv⟩, hb⟩
    obtain ⟨k, u, p, n, c, rfl⟩ := hv.form2
    unfold ret3
    have S3 := Lib.hid (((S2.out.trans (hb.mono S2.out.size)).alloc (Nat.le_trans S2.out.size hb.size) (.cells #[.int .i64 k, .int .u64 (u 0), .int .u64 (u 1), .int .u64 (u 2), .int .u64 (u 3), .slice p n c] 27) : Below w.heap.size w _))
    clear hb hv S2
    go_wp2_with fail
    refine (P4.out _).mono ?_
    rintro _ w4 ⟨⟨v, rfl, hv⟩, hb⟩
    obtain ⟨k, u, p, n, c, rfl⟩ := hv.form2
    unfold ret3
    have S4 := Lib.hid (((S3.out.trans (hb.mono S3.out.size)).alloc (Nat.le_trans S3.out.size hb.size) (.cells #[.int .i64 k, .int .u64 (u 0), .int .u64 (u 1), .int .u64 (u 2), .int .u64 (u 3), .slice p n c] 27) : Below w.heap.size w _))
    clear hb hv S3
    go_wp2_with fail
    have HA := Lib.hid (alive_any (w4.alloc (.cells #[.int .i64 k, .int .u64 (u 0), .int .u64 (u 1), .int .u64 (u 2), .int .u64 (u 3), .slice p n c] 27)) (by have := S4.out.size; omega) (HT.out.mono (S4.out.block 0 hw0)))
    refine HA.out.mono ?_
    rintro _ w5 ⟨rfl, hb⟩
    have S5 := Lib.hid (S4.out.trans (hb.mono S4.out.size))
    clear hb HA
    go_wp2
    go_ret
    exact ⟨rfl, S5.out⟩
end Go.Proofs.YtmjojahkbjlcdaaDoor
