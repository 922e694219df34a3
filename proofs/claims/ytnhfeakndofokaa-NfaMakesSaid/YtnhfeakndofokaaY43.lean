/- Texts of package regs, one behind the other. -/
import Derived.Test.YtnhfeakndofokaaProg
import Derived.Test.YtnhfeakndofokaaP78
import Derived.Test.YtnhfeakndofokaaP76
import Derived.WalkKit
import Derived.WalkLawsBesides
import Derived.WalkSpells
import Derived.Outline
import Derived.Lib.Walk
import Derived.Lib.Hide
import Derived.Lib.Slices
import Derived.Lib.Strings
import Derived.RegionTactic
import Derived.LoopTactic
import Derived.Below
import Derived.IntWalk
import Derived.Deep.QuietTactic
import Derived.BigQuiet
import Derived.Deep.MidRow
import Derived.Maps.AppendAt
import Derived.Laws.Rows
import Derived.Laws.Tables
import Derived.Deep.WholeRow
import Derived.Deep.Cut
import Derived.Deep.CutRange
import Derived.Lib.SliceRun
import Derived.Laws.MakeOwn
import Derived.Deep.RegionLaw
import Derived.Deep.RegionLawGrows
import Derived.Deep.RegionHeld3
import Derived.RegionCalls
import Derived.Deep.RegionWith
import Derived.Deep.Light
import Derived.Laws.CopyOwn
import Derived.Laws.ResultCell
import Derived.Test.YtnhfeakndofokaaY40
import Derived.Test.YtnhfeakndofokaaY21
section
/- Package nfa. -/
namespace Go.Proofs.Ytnhfeakndofokaa
set_option linter.unusedSimpArgs false
set_option linter.unusedVariables false
set_option maxRecDepth 100000
open Go.RowKit
/- The document's Check, Blank, Refuses. -/
set_option maxHeartbeats 4000000 in
theorem refck_any {D : Nat → Prop} {w : World} {t : RT} {k : Int} {u : Nat → Int} {p : Option Addr} {n c : Nat} (hD : ∀ b, D b → b < w.heap.size) (hw : wid t ≤ 9223372036854775806) (hV : RV D w t (.agg (nodeC k u (.slice p n c)))) :
    Calls Try.prog 30 #[.agg #[.int .i64 k, .int .u64 (u 0), .int .u64 (u 1), .int .u64 (u 2), .int .u64 (u 3), .slice p n c]] w fun e w' => e = .returned (.int .i64 (checkE t)) ∧ Below w.heap.size w w' := by
  have S0 := Lib.hid ((Sb.start w).alloc (.cells #[.int .i64 k, .int .u64 (u 0), .int .u64 (u 1), .int .u64 (u 2), .int .u64 (u 3), .slice p n c] 56))
  have HSZ := Lib.hid fun z (hb : Below w.heap.size w z) => sizer_any (w := z) (D := D) hw (fun b h => Nat.lt_of_lt_of_le (hD b h) hb.size) (hV.mono (fun b h => h) (fun b h _ => hb.block b (hD b h)))
  have HDP := Lib.hid fun (hs : sz t ≤ 512) z (hb : Below w.heap.size w z) => deep_any (w := z) (D := D) (dep t) t (Nat.le_refl _) (by have := dep_sz t; omega) (fun b h => Nat.lt_of_lt_of_le (hD b h) hb.size) (by have := wid_sz t; omega) (hV.mono (fun b h => h) (fun b h _ => hb.block b (hD b h)))
  have HMY := Lib.hid fun z (hb : Below w.heap.size w z) => mayr_any (w := z) (D := D) (dep t) t (Nat.le_refl _) (fun b h => Nat.lt_of_lt_of_le (hD b h) hb.size) hw (hV.mono (fun b h => h) (fun b h _ => hb.block b (hD b h)))
  unfold nodeC at HSZ HDP HMY
  obtain ⟨E, hE⟩ : ∃ E, checkE t = E := ⟨_, rfl⟩
  rw [hE]
  unfold checkE at hE
  have hmin : min (sz t) 513 = 513 ∨ (min (sz t) 513 = sz t ∧ sz t ≤ 512) := by omega
  clear hV hD
  by_cases h1 : 512 < sz t
  · rw [if_pos h1] at hE
    subst hE
    rw [show min (sz t) 513 = 513 by omega] at HSZ
    clear hmin
    go_enter Try.func30, Try.ntmps30
    go_wp2_with fail
    have c0 := S0.out.cell 0
    refine (HSZ.out _ S0.out.1).mono ?_
    rintro _ y1 ⟨rfl, hb1⟩
    have S1 := Lib.hid (S0.out.up hb1)
    clear hb1 S0 HSZ
    go_wp2_with fail
    go_ret
    exact ⟨rfl, S1.out.1⟩
  rw [if_neg h1] at hE
  have hs : sz t ≤ 512 := by omega
  have HDQ := Lib.hid (HDP.out hs)
  clear HDP
  rw [show min (sz t) 513 = sz t by omega] at HSZ
  clear hmin
  generalize sz t = s1 at *
  by_cases h2 : 16 < dep t
  · rw [if_pos h2] at hE
    subst hE
    generalize dep t = d1 at *
    go_enter Try.func30, Try.ntmps30
    go_wp2_with fail
    refine (HSZ.out _ S0.out.1).mono ?_
    rintro _ y1 ⟨rfl, hb1⟩
    have S1 := Lib.hid (S0.out.up hb1)
    have g0 : y1.cell? ⟨w.heap.size, 0, none⟩ = some (.int .i64 k) := S1.out.cell 0
    have g1 : y1.cell? ⟨w.heap.size, 1, none⟩ = some (.int .u64 (u 0)) := S1.out.cell 1
    have g2 : y1.cell? ⟨w.heap.size, 2, none⟩ = some (.int .u64 (u 1)) := S1.out.cell 2
    have g3 : y1.cell? ⟨w.heap.size, 3, none⟩ = some (.int .u64 (u 2)) := S1.out.cell 3
    have g4 : y1.cell? ⟨w.heap.size, 4, none⟩ = some (.int .u64 (u 3)) := S1.out.cell 4
    have g5 : y1.cell? ⟨w.heap.size, 5, none⟩ = some (.slice p n c) := S1.out.cell 5
    clear hb1 S0 HSZ
    go_wp2_with fail
    refine (HDQ.out _ S1.out.1).mono ?_
    rintro _ y2 ⟨rfl, hb2⟩
    have S2 := Lib.hid (S1.out.up hb2)
    clear hb2 S1 HDQ
    go_wp2_with fail
    go_ret
    exact ⟨rfl, S2.out.1⟩
  rw [if_neg h2] at hE
  generalize dep t = d1 at *
  generalize mayB t = mb at *
  have hmb : (if mb = true then (0 : Int) else 2) = E := by cases mb <;> simpa using hE
  clear hE
  go_enter Try.func30, Try.ntmps30
  go_wp2_with fail
  refine (HSZ.out _ S0.out.1).mono ?_
  rintro _ y1 ⟨rfl, hb1⟩
  have S1 := Lib.hid (S0.out.up hb1)
  have g0 : y1.cell? ⟨w.heap.size, 0, none⟩ = some (.int .i64 k) := S1.out.cell 0
  have g1 : y1.cell? ⟨w.heap.size, 1, none⟩ = some (.int .u64 (u 0)) := S1.out.cell 1
  have g2 : y1.cell? ⟨w.heap.size, 2, none⟩ = some (.int .u64 (u 1)) := S1.out.cell 2
  have g3 : y1.cell? ⟨w.heap.size, 3, none⟩ = some (.int .u64 (u 2)) := S1.out.cell 3
  have g4 : y1.cell? ⟨w.heap.size, 4, none⟩ = some (.int .u64 (u 3)) := S1.out.cell 4
  have g5 : y1.cell? ⟨w.heap.size, 5, none⟩ = some (.slice p n c) := S1.out.cell 5
  clear hb1 S0 HSZ
  go_wp2_with fail
  refine (HDQ.out _ S1.out.1).mono ?_
  rintro _ y2 ⟨rfl, hb2⟩
  have S2 := Lib.hid (S1.out.up hb2)
  clear g0 g1 g2 g3 g4 g5
  have g0 : y2.cell? ⟨w.heap.size, 0, none⟩ = some (.int .i64 k) := S2.out.cell 0
  have g1 : y2.cell? ⟨w.heap.size, 1, none⟩ = some (.int .u64 (u 0)) := S2.out.cell 1
  have g2 : y2.cell? ⟨w.heap.size, 2, none⟩ = some (.int .u64 (u 1)) := S2.out.cell 2
  have g3 : y2.cell? ⟨w.heap.size, 3, none⟩ = some (.int .u64 (u 2)) := S2.out.cell 3
  have g4 : y2.cell? ⟨w.heap.size, 4, none⟩ = some (.int .u64 (u 3)) := S2.out.cell 4
  have g5 : y2.cell? ⟨w.heap.size, 5, none⟩ = some (.slice p n c) := S2.out.cell 5
  clear hb2 S1 HDQ
  go_wp2_with fail
  refine (HMY.out _ S2.out.1).mono ?_
  rintro _ y3 ⟨rfl, hb3⟩
  have S3 := Lib.hid (S2.out.up hb3)
  clear hb3 S2 HMY g0 g1 g2 g3 g4 g5
  cases mb with
  | true =>
    subst hmb
    go_wp2_with fail
    go_ret
    exact ⟨rfl, S3.out.1⟩
  | false =>
    subst hmb
    go_wp2_with fail
    go_ret
    exact ⟨rfl, S3.out.1⟩
end Go.Proofs.Ytnhfeakndofokaa
end
section
/- Package nfa. -/
namespace Go.Proofs.Ytnhfeakndofokaa
set_option linter.unusedSimpArgs false
set_option linter.unusedVariables false
set_option maxRecDepth 100000
open Go.RowKit
/- The document's Blank. -/
set_option maxHeartbeats 2000000 in
theorem eq24g (u : Nat → Int) (w : World) : (binOp .eql 47 (.agg #[.int .u64 (u 0), .int .u64 (u 1), .int .u64 (u 2), .int .u64 (u 3)]) (.agg #[.int .u64 0, .int .u64 0, .int .u64 0, .int .u64 0])).run Try.prog w = .ok (.bool (zeroU u)) w := by
  have h : ∀ (x : Int) w, (Op.equalIn 9999 45 (.int .u64 x) (.int .u64 0)).run Try.prog w = .ok (x == 0) w := fun x w => eq22g 9998 x 0 w
  have e : ∀ w, (Op.equalIn 10000 47 (.agg #[.int .u64 (u 0), .int .u64 (u 1), .int .u64 (u 2), .int .u64 (u 3)]) (.agg #[.int .u64 0, .int .u64 0, .int .u64 0, .int .u64 0])).run Try.prog w = .ok (zeroU u) w := fun w => by
    rw [show (10000 : Nat) = 9999 + 1 from rfl, Op.equalIn]
    unfold zeroU
    by_cases a0 : u 0 = 0
    · by_cases a1 : u 1 = 0
      · by_cases a2 : u 2 = 0
        · by_cases a3 : u 3 = 0
          · simp [run_underlying Try.underlying47, Try.sizeOf45, Std.Legacy.Range.forIn_eq_forIn_range', List.range', part, h, a0, a1, a2, a3]
          · simp [run_underlying Try.underlying47, Try.sizeOf45, Std.Legacy.Range.forIn_eq_forIn_range', List.range', part, h, a0, a1, a2, a3]
        · simp [run_underlying Try.underlying47, Try.sizeOf45, Std.Legacy.Range.forIn_eq_forIn_range', List.range', part, h, a0, a1, a2]
      · simp [run_underlying Try.underlying47, Try.sizeOf45, Std.Legacy.Range.forIn_eq_forIn_range', List.range', part, h, a0, a1]
    · simp [run_underlying Try.underlying47, Try.sizeOf45, Std.Legacy.Range.forIn_eq_forIn_range', List.range', part, h, a0]
  simp only [binOp]
  simp [Op.equal, Op.maxDepth, e]

set_option maxHeartbeats 4000000 in
theorem blank_0 (u : Nat → Int) (p : Option Addr) (n c : Nat) (w : World) : Calls Try.prog 32 #[.agg (nodeC 0 u (.slice p n c))] w fun e w' => e = .returned (.bool true) ∧ Below w.heap.size w w' := by
  have heq := eq24g u
  have hz := zero47
  have S0 := Lib.hid (((Below.refl w.heap.size w).alloc (Nat.le_refl _) (.cells (nodeC 0 u (.slice p n c)) 56)))
  generalize zeroU u = zb at *
  unfold nodeC at *
  go_enter Try.func32, Try.ntmps32
  go_wp2_with fail
  go_ret
  exact ⟨rfl, S0.out⟩
set_option maxHeartbeats 4000000 in
theorem blank_1 (u : Nat → Int) (p : Option Addr) (n c : Nat) (w : World) : Calls Try.prog 32 #[.agg (nodeC 1 u (.slice p n c))] w fun e w' => e = .returned (.bool false) ∧ Below w.heap.size w w' := by
  have heq := eq24g u
  have hz := zero47
  have S0 := Lib.hid (((Below.refl w.heap.size w).alloc (Nat.le_refl _) (.cells (nodeC 1 u (.slice p n c)) 56)))
  generalize zeroU u = zb at *
  unfold nodeC at *
  go_enter Try.func32, Try.ntmps32
  go_wp2_with fail
  go_ret
  exact ⟨rfl, S0.out⟩
set_option maxHeartbeats 4000000 in
theorem blank_2 (u : Nat → Int) (p : Option Addr) (n c : Nat) (w : World) : Calls Try.prog 32 #[.agg (nodeC 2 u (.slice p n c))] w fun e w' => e = .returned (.bool (zeroU u)) ∧ Below w.heap.size w w' := by
  have heq := eq24g u
  have hz := zero47
  have S0 := Lib.hid (((Below.refl w.heap.size w).alloc (Nat.le_refl _) (.cells (nodeC 2 u (.slice p n c)) 56)))
  generalize zeroU u = zb at *
  unfold nodeC at *
  go_enter Try.func32, Try.ntmps32
  go_wp2_with fail
  go_ret
  exact ⟨rfl, S0.out⟩
set_option maxHeartbeats 4000000 in
theorem blank_5 (u : Nat → Int) (p : Option Addr) (n c : Nat) (w : World) : Calls Try.prog 32 #[.agg (nodeC 5 u (.slice p n c))] w fun e w' => e = .returned (.bool false) ∧ Below w.heap.size w w' := by
  have heq := eq24g u
  have hz := zero47
  have S0 := Lib.hid (((Below.refl w.heap.size w).alloc (Nat.le_refl _) (.cells (nodeC 5 u (.slice p n c)) 56)))
  generalize zeroU u = zb at *
  unfold nodeC at *
  go_enter Try.func32, Try.ntmps32
  go_wp2_with fail
  go_ret
  exact ⟨rfl, S0.out⟩
set_option maxHeartbeats 4000000 in
theorem blank_7 (u : Nat → Int) (p : Option Addr) (n c : Nat) (w : World) : Calls Try.prog 32 #[.agg (nodeC 7 u (.slice p n c))] w fun e w' => e = .returned (.bool false) ∧ Below w.heap.size w w' := by
  have heq := eq24g u
  have hz := zero47
  have S0 := Lib.hid (((Below.refl w.heap.size w).alloc (Nat.le_refl _) (.cells (nodeC 7 u (.slice p n c)) 56)))
  generalize zeroU u = zb at *
  unfold nodeC at *
  go_enter Try.func32, Try.ntmps32
  go_wp2_with fail
  go_ret
  exact ⟨rfl, S0.out⟩
set_option maxHeartbeats 8000000 in
theorem blank_3 {D : Nat → Prop} {w : World} {ps : List RT} {u : Nat → Int} {p : Option Addr} {c : Nat} (hD : ∀ b, D b → b < w.heap.size) (hl : ps.length ≤ 1000000) (hv : RV D w (.mk 3 u ps) (.agg (nodeC 3 u (.slice p ps.length c))))
    (HP : Hid (∀ q ∈ ps, ∀ z v, Below w.heap.size w z → RV D z q v → Calls Try.prog 32 #[v] z fun e z' => e = .returned (.bool (!msF q)) ∧ Below z.heap.size z z')) :
    Calls Try.prog 32 #[.agg (nodeC 3 u (.slice p ps.length c))] w fun e w' => e = .returned (.bool (ps.any fun q => !msF q)) ∧ Below w.heap.size w w' := by
  have HRV := Lib.hid hv
  have HD := Lib.hid hD
  have S0 := Lib.hid ((Sb.start w).alloc (.cells #[.int .i64 3, .int .u64 (u 0), .int .u64 (u 1), .int .u64 (u 2), .int .u64 (u 3), .slice p ps.length c] 56))
  obtain ⟨R, hR⟩ : ∃ R, ps.any (fun q => !msF q) = R := ⟨_, rfl⟩
  have HR0 : Hid ((ps.drop 0).any (fun q => !msF q) = R) := Lib.hid (by simpa using hR)
  rw [hR]
  clear hv hD hR
  unfold nodeC
  go_enter Try.func32, Try.ntmps32
  go_wp2_with fail
  go_loopw [3] (fun i wr => ∃ j : Nat, i = .int .i64 (j : Nat) ∧ j ≤ ps.length ∧ Hid (Sb w wr [(w.heap.size, .cells #[.int .i64 3, .int .u64 (u 0), .int .u64 (u 1), .int .u64 (u 2), .int .u64 (u 3), .slice p ps.length c] 56)]) ∧ Hid ((ps.drop j).any (fun q => !msF q) = R)) (fun i _ => ps.length - (intOf i).toNat)
  case atStart => exact ⟨0, rfl, by omega, S0, HR0⟩
  case round =>
    clear S0 HR0
    obtain ⟨j, rfl, hj, HS, HR⟩ := hrel
    have g5 : wr.cell? ⟨w.heap.size, 5, none⟩ = some (.slice p ps.length c) := HS.out.cell 5
    by_cases hlt : j < ps.length
    · have hq := trivial
      have hlt2 : (j : Int) < ((ps.length : Nat) : Int) := by omega
      have hjI : ¬ (j : Int) < 0 := by omega
      obtain ⟨p', c', hv', hpx⟩ := HRV.out.parts
      obtain ⟨rfl, rfl⟩ : p = p' ∧ c = c' := by simpa [nodeC] using hv'
      obtain ⟨b', o', rfl, hDb, hx⟩ := hpx (by intro e; subst e; simp at hlt)
      obtain ⟨k5, u5, p5, n5, c5', hv5, hc5⟩ := hx j hlt
      have hbw := HD.out b' hDb
      have cc5 : ∀ i y, (nodeC k5 u5 (.slice p5 n5 c5'))[i]? = some y → wr.cell? ⟨b', o' + j * 6 + i, none⟩ = some y := fun i y hy => by
        rw [HS.out.1.cell (p := ⟨b', o' + j * 6 + i, none⟩) hbw, ← hc5 i y hy, show o' + j * 6 + i = o' + (6 * j + i) by omega]
      have f0 : wr.cell? ⟨b', o' + j * 6, none⟩ = some (.int .i64 k5) := cc5 0 _ rfl
      have f1 : wr.cell? ⟨b', o' + j * 6 + 1, none⟩ = some (.int .u64 (u5 0)) := cc5 1 _ rfl
      have f2 : wr.cell? ⟨b', o' + j * 6 + 2, none⟩ = some (.int .u64 (u5 1)) := cc5 2 _ rfl
      have f3 : wr.cell? ⟨b', o' + j * 6 + 3, none⟩ = some (.int .u64 (u5 2)) := cc5 3 _ rfl
      have f4 : wr.cell? ⟨b', o' + j * 6 + 4, none⟩ = some (.int .u64 (u5 3)) := cc5 4 _ rfl
      have f5 : wr.cell? ⟨b', o' + j * 6 + 5, none⟩ = some (.slice p5 n5 c5') := cc5 5 _ rfl
      have HQ := Lib.hid (HP.out _ (List.getElem_mem hlt) wr _ HS.out.1 (hv5.mono (fun b h => h) (fun b h _ => HS.out.1.block b (HD.out b h))))
      have hdr := any_drop (f := (fun q => !msF q)) hlt
      rw [HR.out] at hdr
      generalize msF ps[j] = m at *
      have HDR := Lib.hid hdr
      clear hdr hx hpx hv' cc5 hc5 hv5 HR
      go_wp2_with fail
      refine HQ.out.mono ?_
      rintro _ y ⟨rfl, hb⟩
      have HS2 := Lib.hid (HS.out.up hb)
      clear hb HQ HS f0 f1 f2 f3 f4 f5 g5
      cases m with
      | false =>
        have HRR : Hid (R = true) := Lib.hid (by rw [HDR.out]; rfl)
        go_wp2_with fail
        go_ret
        exact ⟨by rw [HRR.out]; rfl, HS2.out.1⟩
      | true =>
        have HRR : Hid ((ps.drop (j + 1)).any (fun q => !msF q) = R) := Lib.hid (by rw [HDR.out]; rfl)
        go_wp2_with fail
        go_roundw
        case rel => exact ⟨j + 1, by go_num, by omega, HS2, HRR⟩
        case measure => simp [intOf]; omega
    · obtain rfl : j = ps.length := by omega
      have hlt2 : ¬ ((ps.length : Nat) : Int) < ((ps.length : Nat) : Int) := by omega
      have HRR : Hid (R = false) := Lib.hid (by have := HR.out; rw [List.drop_length] at this; exact this.symm)
      clear HR
      go_wp2_with fail
      go_ret
      exact ⟨by rw [HRR.out]; rfl, HS.out.1⟩
set_option maxHeartbeats 8000000 in
theorem blank_4 {D : Nat → Prop} {w : World} {ps : List RT} {u : Nat → Int} {p : Option Addr} {c : Nat} (hD : ∀ b, D b → b < w.heap.size) (hl : ps.length ≤ 1000000) (hv : RV D w (.mk 4 u ps) (.agg (nodeC 4 u (.slice p ps.length c))))
    (HP : Hid (∀ q ∈ ps, ∀ z v, Below w.heap.size w z → RV D z q v → Calls Try.prog 32 #[v] z fun e z' => e = .returned (.bool (!msF q)) ∧ Below z.heap.size z z')) :
    Calls Try.prog 32 #[.agg (nodeC 4 u (.slice p ps.length c))] w fun e w' => e = .returned (.bool (!ps.any msF)) ∧ Below w.heap.size w w' := by
  have HRV := Lib.hid hv
  have HD := Lib.hid hD
  have S0 := Lib.hid ((Sb.start w).alloc (.cells #[.int .i64 4, .int .u64 (u 0), .int .u64 (u 1), .int .u64 (u 2), .int .u64 (u 3), .slice p ps.length c] 56))
  obtain ⟨R, hR⟩ : ∃ R, ps.any msF = R := ⟨_, rfl⟩
  have HR0 : Hid ((ps.drop 0).any msF = R) := Lib.hid (by simpa using hR)
  rw [hR]
  clear hv hD hR
  unfold nodeC
  go_enter Try.func32, Try.ntmps32
  go_wp2_with fail
  go_loopw [4] (fun i wr => ∃ j : Nat, i = .int .i64 (j : Nat) ∧ j ≤ ps.length ∧ Hid (Sb w wr [(w.heap.size, .cells #[.int .i64 4, .int .u64 (u 0), .int .u64 (u 1), .int .u64 (u 2), .int .u64 (u 3), .slice p ps.length c] 56)]) ∧ Hid ((ps.drop j).any msF = R)) (fun i _ => ps.length - (intOf i).toNat)
  case atStart => exact ⟨0, rfl, by omega, S0, HR0⟩
  case round =>
    clear S0 HR0
    obtain ⟨j, rfl, hj, HS, HR⟩ := hrel
    have g5 : wr.cell? ⟨w.heap.size, 5, none⟩ = some (.slice p ps.length c) := HS.out.cell 5
    by_cases hlt : j < ps.length
    · have hq := trivial
      have hlt2 : (j : Int) < ((ps.length : Nat) : Int) := by omega
      have hjI : ¬ (j : Int) < 0 := by omega
      obtain ⟨p', c', hv', hpx⟩ := HRV.out.parts
      obtain ⟨rfl, rfl⟩ : p = p' ∧ c = c' := by simpa [nodeC] using hv'
      obtain ⟨b', o', rfl, hDb, hx⟩ := hpx (by intro e; subst e; simp at hlt)
      obtain ⟨k5, u5, p5, n5, c5', hv5, hc5⟩ := hx j hlt
      have hbw := HD.out b' hDb
      have cc5 : ∀ i y, (nodeC k5 u5 (.slice p5 n5 c5'))[i]? = some y → wr.cell? ⟨b', o' + j * 6 + i, none⟩ = some y := fun i y hy => by
        rw [HS.out.1.cell (p := ⟨b', o' + j * 6 + i, none⟩) hbw, ← hc5 i y hy, show o' + j * 6 + i = o' + (6 * j + i) by omega]
      have f0 : wr.cell? ⟨b', o' + j * 6, none⟩ = some (.int .i64 k5) := cc5 0 _ rfl
      have f1 : wr.cell? ⟨b', o' + j * 6 + 1, none⟩ = some (.int .u64 (u5 0)) := cc5 1 _ rfl
      have f2 : wr.cell? ⟨b', o' + j * 6 + 2, none⟩ = some (.int .u64 (u5 1)) := cc5 2 _ rfl
      have f3 : wr.cell? ⟨b', o' + j * 6 + 3, none⟩ = some (.int .u64 (u5 2)) := cc5 3 _ rfl
      have f4 : wr.cell? ⟨b', o' + j * 6 + 4, none⟩ = some (.int .u64 (u5 3)) := cc5 4 _ rfl
      have f5 : wr.cell? ⟨b', o' + j * 6 + 5, none⟩ = some (.slice p5 n5 c5') := cc5 5 _ rfl
      have HQ := Lib.hid (HP.out _ (List.getElem_mem hlt) wr _ HS.out.1 (hv5.mono (fun b h => h) (fun b h _ => HS.out.1.block b (HD.out b h))))
      have hdr := any_drop (f := msF) hlt
      rw [HR.out] at hdr
      generalize msF ps[j] = m at *
      have HDR := Lib.hid hdr
      clear hdr hx hpx hv' cc5 hc5 hv5 HR
      go_wp2_with fail
      refine HQ.out.mono ?_
      rintro _ y ⟨rfl, hb⟩
      have HS2 := Lib.hid (HS.out.up hb)
      clear hb HQ HS f0 f1 f2 f3 f4 f5 g5
      cases m with
      | true =>
        have HRR : Hid (R = true) := Lib.hid (by rw [HDR.out]; rfl)
        go_wp2_with fail
        go_ret
        exact ⟨by rw [HRR.out]; rfl, HS2.out.1⟩
      | false =>
        have HRR : Hid ((ps.drop (j + 1)).any msF = R) := Lib.hid (by rw [HDR.out]; rfl)
        go_wp2_with fail
        go_roundw
        case rel => exact ⟨j + 1, by go_num, by omega, HS2, HRR⟩
        case measure => simp [intOf]; omega
    · obtain rfl : j = ps.length := by omega
      have hlt2 : ¬ ((ps.length : Nat) : Int) < ((ps.length : Nat) : Int) := by omega
      have HRR : Hid (R = false) := Lib.hid (by have := HR.out; rw [List.drop_length] at this; exact this.symm)
      clear HR
      go_wp2_with fail
      go_ret
      exact ⟨by rw [HRR.out]; rfl, HS.out.1⟩
set_option maxHeartbeats 8000000 in
theorem blank_6 {D : Nat → Prop} {w : World} {q : RT} {u : Nat → Int} {p : Option Addr} {c : Nat} (hD : ∀ b, D b → b < w.heap.size) (hv : RV D w (.mk 6 u [q]) (.agg (nodeC 6 u (.slice p 1 c))))
    (HP : Hid (∀ z v, Below w.heap.size w z → RV D z q v → Calls Try.prog 32 #[v] z fun e z' => e = .returned (.bool (!msF q)) ∧ Below z.heap.size z z')) :
    Calls Try.prog 32 #[.agg (nodeC 6 u (.slice p 1 c))] w fun e w' => e = .returned (.bool (!msF q)) ∧ Below w.heap.size w w' := by
  have S0 := Lib.hid ((Sb.start w).alloc (.cells #[.int .i64 6, .int .u64 (u 0), .int .u64 (u 1), .int .u64 (u 2), .int .u64 (u 3), .slice p 1 c] 56))
  obtain ⟨p', c', hv', hpx⟩ := hv.parts
  obtain ⟨rfl, rfl⟩ : p = p' ∧ c = c' := by simpa [nodeC] using hv'
  obtain ⟨b', o', rfl, hDb, hx⟩ := hpx (by simp)
  obtain ⟨k5, u5, p5, n5, c5', hv5, hc5⟩ := hx 0 (by simp)
  have hbw := hD b' hDb
  have hb1 := (Below.refl w.heap.size w).alloc (Nat.le_refl _) (.cells #[.int .i64 6, .int .u64 (u 0), .int .u64 (u 1), .int .u64 (u 2), .int .u64 (u 3), .slice (some ⟨b', o', none⟩) 1 c] 56)
  obtain ⟨w1, hw1⟩ : ∃ w1, w.alloc (.cells #[.int .i64 6, .int .u64 (u 0), .int .u64 (u 1), .int .u64 (u 2), .int .u64 (u 3), .slice (some ⟨b', o', none⟩) 1 c] 56) = w1 := ⟨_, rfl⟩
  have HQ := Lib.hid (HP.out (w.alloc (.cells #[.int .i64 6, .int .u64 (u 0), .int .u64 (u 1), .int .u64 (u 2), .int .u64 (u 3), .slice (some ⟨b', o', none⟩) 1 c] 56)) _ hb1 (hv5.mono (fun b h => h) (fun b h _ => hb1.block b (hD b h))))
  have cc5 : ∀ i y, (nodeC k5 u5 (.slice p5 n5 c5'))[i]? = some y → w.cell? ⟨b', o' + i, none⟩ = some y := fun i y hy => by
    rw [← hc5 i y hy, show o' + i = o' + (6 * 0 + i) by omega]
  have f0 : w.cell? ⟨b', o', none⟩ = some (.int .i64 k5) := cc5 0 _ rfl
  have f1 : w.cell? ⟨b', o' + 1, none⟩ = some (.int .u64 (u5 0)) := cc5 1 _ rfl
  have f2 : w.cell? ⟨b', o' + 2, none⟩ = some (.int .u64 (u5 1)) := cc5 2 _ rfl
  have f3 : w.cell? ⟨b', o' + 3, none⟩ = some (.int .u64 (u5 2)) := cc5 3 _ rfl
  have f4 : w.cell? ⟨b', o' + 4, none⟩ = some (.int .u64 (u5 3)) := cc5 4 _ rfl
  have f5 : w.cell? ⟨b', o' + 5, none⟩ = some (.slice p5 n5 c5') := cc5 5 _ rfl
  have hne : b' ≠ w.heap.size := by omega
  generalize msF q = m at *
  unfold nodeC at *
  clear hv hpx hx hc5 hv5 cc5 hb1 hw1 hv'
  go_enter Try.func32, Try.ntmps32
  go_wp2_with fail
  refine HQ.out.mono ?_
  rintro _ y ⟨rfl, hb⟩
  have HS2 := Lib.hid (S0.out.up hb)
  clear hb HQ S0
  go_wp2_with fail
  go_ret
  exact ⟨rfl, HS2.out.1⟩
theorem blank_any : ∀ (n : Nat) (t : RT), sz t ≤ n → n ≤ 1000000 → mayB t = true → ∀ {D : Nat → Prop} {w : World} {v : Value}, (∀ b, D b → b < w.heap.size) → RV D w t v → Calls Try.prog 32 #[v] w fun e w' => e = .returned (.bool (!msF t)) ∧ Below w.heap.size w w' := by
  intro n
  induction n with
  | zero => intro t h; have := sz_pos t; omega
  | succ n ih =>
    intro t hsz hn hmay
    obtain ⟨k, u, ps⟩ := t
    intro D w v hD hv
    obtain ⟨p, c, rfl⟩ := rv_form' hv
    rw [sz] at hsz
    rw [mayB, Bool.and_eq_true, Bool.and_eq_true] at hmay
    have hl := len_szL ps
    have IH : ∀ q ∈ ps, ∀ z v, Below w.heap.size w z → RV D z q v → Calls Try.prog 32 #[v] z fun e z' => e = .returned (.bool (!msF q)) ∧ Below z.heap.size z z' := fun q hq z v hz hvq => ih q (by have := sz_mem hq; omega) (by omega) (mayL_mem hmay.2 q hq) (fun b h => Nat.lt_of_lt_of_le (hD b h) hz.size) hvq
    have hall : (ps.any fun q => !msF q) = !msAll ps := by
      rw [msAll_eq, Bool.eq_iff_iff]; simp
    rcases fits_kind hmay.1.1 with rfl | rfl | rfl | rfl | rfl | ⟨rfl, e1⟩ | ⟨rfl, e1⟩ | ⟨rfl, e1⟩
    · exact blank_0 u p ps.length c w
    · exact blank_1 u p ps.length c w
    · have := blank_2 u p ps.length c w
      rw [msF]; simpa using this
    · have := blank_3 hD (by omega) hv (Lib.hid IH)
      rw [hall] at this
      rw [msF]; simpa using this
    · have := blank_4 hD (by omega) hv (Lib.hid IH)
      rw [← msAny_eq] at this
      rw [msF]; simpa using this
    · exact blank_5 u p ps.length c w
    · match ps, e1 with
      | [q], _ =>
        have := blank_6 (q := q) hD hv (Lib.hid fun z v hz h => IH q (by simp) z v hz h)
        rw [msF, msAll, msAll]; simpa using this
    · exact blank_7 u p ps.length c w
end Go.Proofs.Ytnhfeakndofokaa
end
