/- Texts of package regs, one behind the other. -/
import Derived.Test.YtemkppjdfjoipaaProg
import Derived.Test.YtemkppjdfjoipaaW13
import Derived.Test.YtemkppjdfjoipaaW16
import Derived.WalkKit
import Derived.BigFrame
import Derived.WalkMore
import Derived.ScopeJumps
import Derived.StillTailTactics
import Derived.Stop.BytesEq
import Derived.WalkLawsBesides
import Derived.WalkSpells
import Derived.Outline
import Derived.Lib.Walk
import Derived.Lib.Hide
import Derived.Lib.Slices
import Derived.Lib.Strings
import Derived.RegionTactic
import Derived.LoopTactic
import Derived.Below
import Derived.IntWalk
import Derived.Deep.QuietTactic
import Derived.BigQuiet
import Derived.Deep.MidRow
import Derived.Maps.AppendAt
import Derived.Laws.Rows
import Derived.Laws.Tables
import Derived.Deep.WholeRow
import Derived.Deep.Cut
import Derived.Deep.CutRange
import Derived.Lib.SliceRun
import Derived.Laws.MakeOwn
import Derived.Deep.RegionLaw
import Derived.Deep.RegionLawGrows
import Derived.Deep.RegionHeld3
import Derived.RegionCalls
import Derived.Deep.RegionWith
import Derived.Deep.Light
import Derived.Laws.CopyOwn
import Derived.Laws.ResultCell
import Derived.Test.YtemkppjdfjoipaaEc
section
/- Package raws. -/
namespace Go.Proofs.Ytemkppjdfjoipaa
set_option linter.unusedSimpArgs false
set_option linter.unusedVariables false
set_option maxRecDepth 100000
open Go.RowKit
/- raws.namesNone. -/
theorem names1 {b : Nat} {m : Int} (x : Int) (w : World) (h : w.cell? ⟨b, 0, none⟩ = some (.int .i64 m)) : Calls Try.prog 88 #[.int .i64 x, .pointer (some ⟨b, 0, none⟩)] w fun e w' => e = .returned (.bool (decide (m ≤ x))) ∧ w' = w := by
  go_enter Try.func88, Try.ntmps88
  by_cases h' : m ≤ x
  · have h1 : ¬ x < m := by omega
    go_wp2_with fail
    go_ret
    exact ⟨by simp [h'], rfl⟩
  · have h1 : x < m := by omega
    go_wp2_with fail
    go_ret
    exact ⟨by simp [h'], rfl⟩
def anyGe (m : Int) (r : List Int) : Bool := r.any fun x => decide (m ≤ x)
set_option maxHeartbeats 4000000 in
theorem names_index {D : Nat → Prop} {w : World} {r : List Int} {p : Option Addr} {c b : Nat} {m : Int} (hD : ∀ b, D b → b < w.heap.size) (h : IV D w r (.slice p r.length c)) (hl : r.length ≤ 9223372036854775806) (hm : w.cell? ⟨b, 0, none⟩ = some (.int .i64 m)) :
    Calls Try.prog 91 #[.slice p r.length c, .func (.func 88) #[] #[.pointer (some ⟨b, 0, none⟩)]] w fun e w' => ∃ k : Int, e = .returned (.int .i64 k) ∧ decide (0 ≤ k) = anyGe m r ∧ Below w.heap.size w w' := by
  have HIV := Lib.hid h
  have HD := Lib.hid hD
  have HM := Lib.hid hm
  have S0 := Lib.hid (Below.refl w.heap.size w)
  clear h hD hm
  go_enter Try.func91, Try.ntmps91
  go_wp2_with fail
  go_loopw [8] (fun i wr => ∃ j : Nat, i = .int .i64 (j : Nat) ∧ j ≤ r.length ∧ Hid (anyGe m (r.take j) = false) ∧ Hid (Below w.heap.size w wr)) (fun i _ => r.length - (intOf i).toNat)
  case atStart => exact ⟨0, rfl, by omega, Lib.hid (by simp [anyGe]), S0⟩
  case round =>
  clear S0
  obtain ⟨j, rfl, hj, HA, HS⟩ := hrel
  by_cases hlt : j < r.length
  · obtain ⟨p', c', he, hh⟩ := HIV.out
    injection he with e1 e2 e3
    subst e1 e3
    obtain ⟨b2, o, rfl, hb, hc⟩ := hh (by intro e; subst e; simp at hlt)
    have cx : wr.cell? ⟨b2, o + j, none⟩ = some (.int .i64 r[j]) := (cell_same (HS.out.block b2 (HD.out b2 hb)) _).trans (hc j hlt)
    have hta : r.take (j + 1) = r.take j ++ [r[j]] := by rw [List.take_add_one, List.getElem?_eq_getElem hlt]; rfl
    have HY : Hid (m ≤ r[j] → anyGe m r = true) := Lib.hid fun h => List.any_eq_true.2 ⟨r[j], List.getElem_mem hlt, by simpa using h⟩
    have HA2 : Hid (r[j] < m → anyGe m (r.take (j + 1)) = false) := Lib.hid fun h => by
      have := HA.out
      unfold anyGe at this ⊢
      rw [hta, List.any_append, this]; simp; exact h
    have HCM := Lib.hid ((cell_same (HS.out.block b (blk_lt HM.out)) 0).trans HM.out)
    generalize r[j] = x at *
    have hltI : (j : Int) < (r.length : Int) := by omega
    have hjI : ¬ (j : Int) < 0 := by omega
    clear hh hc hta e2
    go_wp2_with fail
    refine (names1 x wr HCM.out).mono ?_
    rintro _ w1 ⟨rfl, rfl⟩
    by_cases hx : m ≤ x
    · have HR := Lib.hid (HY.out hx)
      rw [decide_eq_true hx]
      clear HY HA2 HA
      go_wp2_with fail
      go_ret
      exact ⟨j, rfl, by rw [HR.out]; simp, HS.out⟩
    · have HR := Lib.hid (HA2.out (by omega))
      rw [decide_eq_false hx]
      clear HY HA2 HA
      go_wp2_with fail
      go_roundw
      case rel => exact ⟨j + 1, by go_num, by omega, HR, HS⟩
      case measure => simp [intOf]; omega
  · obtain rfl : j = r.length := by omega
    have HR : Hid (anyGe m r = false) := Lib.hid (by have := HA.out; rwa [List.take_length] at this)
    have hltI : ¬ (r.length : Int) < (r.length : Int) := by omega
    clear HA
    go_wp2_with fail
    go_ret
    exact ⟨-1, rfl, by rw [HR.out]; simp, HS.out⟩
theorem names_contains {D : Nat → Prop} {w : World} {r : List Int} {p : Option Addr} {c b : Nat} {m : Int} (hD : ∀ b, D b → b < w.heap.size) (h : IV D w r (.slice p r.length c)) (hl : r.length ≤ 9223372036854775806) (hm : w.cell? ⟨b, 0, none⟩ = some (.int .i64 m)) :
    Calls Try.prog 77 #[.slice p r.length c, .func (.func 88) #[] #[.pointer (some ⟨b, 0, none⟩)]] w fun e w' => e = .returned (.bool (anyGe m r)) ∧ Below w.heap.size w w' := by
  have HC := Lib.hid (names_index hD h hl hm)
  clear h hD hm
  generalize anyGe m r = o at *
  generalize r.length = n at *
  go_enter Try.func77, Try.ntmps77
  go_wp2_with fail
  refine HC.out.mono ?_
  rintro _ w1 ⟨k, rfl, hk, hb⟩
  have HB := Lib.hid hb
  have HK := Lib.hid hk
  clear hk hb
  by_cases hk0 : 0 ≤ k
  · have hk' : ¬ k < 0 := by omega
    go_wp2_with fail
    go_ret
    exact ⟨by rw [← HK.out]; simp [hk0], HB.out⟩
  · have hk' : k < 0 := by omega
    go_wp2_with fail
    go_ret
    exact ⟨by rw [← HK.out, decide_eq_false (by omega)]; rfl, HB.out⟩
set_option maxHeartbeats 4000000 in
theorem names_any {D : Nat → Prop} {w : World} {d : Df} {ds : Array Value} {p q : Option Addr} {c f : Nat} (m : Int) (hd : DC d ds p q c f) (hm : DM D w d p q c f) :
    Calls Try.prog 74 #[.agg ds, .int .i64 m] w fun e w' => e = .returned (.bool (anyGe m d.rl)) ∧ Below w.heap.size w w' := by
  have S0 := Lib.hid (((Sb.start w).alloc (.cells ds 61)).alloc (.cells #[.int .i64 m] 3))
  have hs1 : (w.alloc (.cells ds 61)).heap.size = w.heap.size + 1 := by simp
  rw [hs1] at S0
  have hm2 := hm.up S0.out.1
  have c1 : ((w.alloc (.cells ds 61)).alloc (.cells #[.int .i64 m] 3)).cell? ⟨w.heap.size, 258, none⟩ = some (.slice q d.rl.length f) := (S0.out.tl.cell 258).trans hd.rl
  have HC := Lib.hid (names_contains hm2.lt hm2.rl hm2.l2 (b := w.heap.size + 1) (m := m) (S0.out.cell 0))
  clear hd hm hm2 hs1
  generalize anyGe m d.rl = o at *
  generalize d.rl.length = n at *
  go_enter Try.func74, Try.ntmps74
  go_wp2_with fail
  refine HC.out.mono ?_
  rintro _ w1 ⟨rfl, hb⟩
  have HB := Lib.hid (S0.out.1.trans (hb.mono S0.out.1.size))
  clear hb S0
  go_wp2_with fail
  go_ret
  exact ⟨rfl, HB.out⟩
end Go.Proofs.Ytemkppjdfjoipaa
end
section
/- Package raws. -/
namespace Go.Proofs.Ytemkppjdfjoipaa
set_option linter.unusedSimpArgs false
set_option linter.unusedVariables false
set_option maxRecDepth 100000
open Go.RowKit
/- raws.piece. -/
def rwA (x : Int × Nat × Nat) : Array Value := #[.int .i64 x.1, .int .i64 (x.2.1 : Nat), .int .i64 (x.2.2 : Nat)]
/-- The rules' kinds, where they lie. -/
def KV (w : World) (ks : Nat → Int) (n : Nat) (q : Option Addr) : Prop := ∀ i, i < n → ∃ b o, q = some ⟨b, o, none⟩ ∧ w.cell? ⟨b, o + i * 7, none⟩ = some (.int .i64 (ks i))
theorem KV.up {w w' : World} {ks : Nat → Int} {n : Nat} {q : Option Addr} (h : KV w ks n q) (hb : Below w.heap.size w w') : KV w' ks n q := fun i hi => by
  obtain ⟨b, o, h1, h2⟩ := h i hi
  exact ⟨b, o, h1, (cell_same (hb.block b (blk_lt h2)) _).trans h2⟩
theorem zero60 : ∀ w, (zeroValue 38).run Try.prog w = .ok (.agg #[.int .i64 0, .int .i64 0, .int .i64 0]) w := (zero_of_info (show (Try.prog.info? 38).map (fun i => (i.zero, i.size)) = some (some (.agg #[.int .i64 0, .int .i64 0, .int .i64 0]), 3) by kernel_rfl)).1
set_option maxHeartbeats 4000000 in
theorem piece_any {w : World} {ks : Nat → Int} {n f : Nat} {q : Option Addr} {r : Int} {ln lk : Nat} (hk : KV w ks n q) (hr : r < (n : Int)) :
    Calls Try.prog 90 #[.slice q n f, munV (r, ln, lk)] w fun e w' => e = .returned (.agg (rwA (pcF ks (r, ln, lk)))) ∧ Below w.heap.size w w' := by
  have hz := zero60
  have hs0 := ((Sb.start w).alloc (.cells #[.int .i64 r, .int .i64 (ln : Nat), .int .i64 (lk : Nat)] 147)).alloc (.cells #[.int .i64 0, .int .i64 0, .int .i64 0] 38)
  have hs1 : (w.alloc (.cells #[.int .i64 r, .int .i64 (ln : Nat), .int .i64 (lk : Nat)] 147)).heap.size = w.heap.size + 1 := by simp
  rw [hs1] at hs0
  have S0 := Lib.hid hs0
  have HK := Lib.hid (hk.up hs0.1)
  have HRES : Hid (∀ W' x, Sb w W' [(w.heap.size + 1, .cells (rwA x) 38)] → x = pcF ks (r, ln, lk) → ∀ T : Array Value, T.getD 4 undef = .pointer (some ⟨w.heap.size + 1, 0, none⟩) → (results Try.f90 T).run Try.prog W' = .ok (.agg (rwA (pcF ks (r, ln, lk)))) W' ∧ Below w.heap.size w W') := Lib.hid fun W' x h1 h2 T hT => by
    subst h2
    exact ⟨results_cell_row rfl T W' (w.heap.size + 1) 38 _ (0, 0) _ hT h1.heap Try.underlying38 rfl (by kernel_rfl), h1.1⟩
  clear hk hs0 hs1
  unfold munV
  simp only []
  go_enter Try.func90, Try.ntmps90
  by_cases h0 : r < 0
  · have HX : Hid ((23, 1, lk) = pcF ks (r, ln, lk)) := Lib.hid (by unfold pcF; rw [if_pos h0])
    have c0 : ((w.alloc (.cells #[.int .i64 r, .int .i64 (ln : Nat), .int .i64 (lk : Nat)] 147)).alloc (.cells #[.int .i64 0, .int .i64 0, .int .i64 0] 38)).cell? ⟨w.heap.size, 0, none⟩ = some (.int .i64 r) := S0.out.tl.cell 0
    have HR : Hid (Sb w ((w.alloc (.cells #[.int .i64 r, .int .i64 (ln : Nat), .int .i64 (lk : Nat)] 147)).alloc (.cells (rwA (23, 1, lk)) 38)) [(w.heap.size + 1, .cells (rwA (23, 1, lk)) 38)]) := Lib.hid (by
      have h := ((Sb.start w).alloc (.cells #[.int .i64 r, .int .i64 (ln : Nat), .int .i64 (lk : Nat)] 147)).alloc (.cells (rwA (23, 1, lk)) 38)
      have hs1 : (w.alloc (.cells #[.int .i64 r, .int .i64 (ln : Nat), .int .i64 (lk : Nat)] 147)).heap.size = w.heap.size + 1 := by simp
      rw [hs1] at h
      exact h.sub (by simp))
    go_wp2_with fail
    refine bodyPost_ret (v := .agg (rwA (pcF ks (r, ln, lk)))) (HRES.out _ _ HR.out HX.out _ rfl).1 rfl ⟨rfl, (HRES.out _ _ HR.out HX.out #[undef, undef, undef, undef, .pointer (some ⟨w.heap.size + 1, 0, none⟩)] rfl).2⟩
  · obtain ⟨m, rfl⟩ : ∃ m : Nat, r = (m : Int) := ⟨r.toNat, by omega⟩
    have hmn : m < n := by omega
    obtain ⟨b, o, rfl, hc⟩ := HK.out m hmn
    have HX : Hid ((ks m, ln, lk) = pcF ks ((m : Int), ln, lk)) := Lib.hid (by unfold pcF; rw [if_neg h0]; rfl)
    obtain ⟨kd, hkd⟩ : ∃ kd, ks m = kd := ⟨_, rfl⟩
    rw [hkd] at hc HX
    clear hkd HK
    go_upto_region 1 with fail
    refine at_world (fun y => Sb w y [(w.heap.size + 1, .cells #[.int .i64 0, .int .i64 0, .int .i64 0] 38), (w.heap.size, .cells #[.int .i64 (m : Nat), .int .i64 (ln : Nat), .int .i64 (lk : Nat)] 147)] ∧ y.cell? ⟨b, o + m * 7, none⟩ = some (.int .i64 kd)) ⟨S0.out, hc⟩ fun W hW => ?_
    have S1 := Lib.hid hW.1
    have hc := hW.2
    clear S0 hW
    have HC := Lib.hid hc
    have c0 : W.cell? ⟨w.heap.size, 0, none⟩ = some (.int .i64 (m : Nat)) := S1.out.tl.cell 0
    have c1 : W.cell? ⟨w.heap.size, 1, none⟩ = some (.int .i64 (ln : Nat)) := S1.out.tl.cell 1
    have c2 : W.cell? ⟨w.heap.size, 2, none⟩ = some (.int .i64 (lk : Nat)) := S1.out.tl.cell 2
    have d0 : W.drew.cell? ⟨w.heap.size, 0, none⟩ = some (.int .i64 (m : Nat)) := c0
    have d1 : W.drew.cell? ⟨w.heap.size, 1, none⟩ = some (.int .i64 (ln : Nat)) := c1
    have d2 : W.drew.cell? ⟨w.heap.size, 2, none⟩ = some (.int .i64 (lk : Nat)) := c2
    have dk : W.drew.cell? ⟨b, o + m * 7, none⟩ = some (.int .i64 kd) := hc
    have e0 : W.drew.cell? ⟨w.heap.size + 1, 0, none⟩ = some (.int .i64 0) := S1.out.cell 0
    have e1 : W.drew.cell? ⟨w.heap.size + 1, 1, none⟩ = some (.int .i64 0) := S1.out.cell 1
    have e2 : W.drew.cell? ⟨w.heap.size + 1, 2, none⟩ = some (.int .i64 0) := S1.out.cell 2
    have f0 : W.drew.frozen? ⟨w.heap.size + 1, 0, none⟩ = false := S1.out.free 0
    have f1 : W.drew.frozen? ⟨w.heap.size + 1, 1, none⟩ = false := S1.out.free 1
    have f2 : W.drew.frozen? ⟨w.heap.size + 1, 2, none⟩ = false := S1.out.free 2
    have e'0 : W.cell? ⟨w.heap.size + 1, 0, none⟩ = some (.int .i64 0) := S1.out.cell 0
    have e'1 : W.cell? ⟨w.heap.size + 1, 1, none⟩ = some (.int .i64 0) := S1.out.cell 1
    have e'2 : W.cell? ⟨w.heap.size + 1, 2, none⟩ = some (.int .i64 0) := S1.out.cell 2
    have f'0 : W.frozen? ⟨w.heap.size + 1, 0, none⟩ = false := S1.out.free 0
    have f'1 : W.frozen? ⟨w.heap.size + 1, 1, none⟩ = false := S1.out.free 1
    have f'2 : W.frozen? ⟨w.heap.size + 1, 2, none⟩ = false := S1.out.free 2
    have hmI : (m : Int) < (n : Int) := by omega
    have HR : Hid (Sb w (((W.drew.setCell ⟨w.heap.size + 1, 0, none⟩ (.int .i64 kd)).setCell ⟨w.heap.size + 1, 1, none⟩ (.int .i64 (ln : Nat))).setCell ⟨w.heap.size + 1, 2, none⟩ (.int .i64 (lk : Nat))) [(w.heap.size + 1, .cells (rwA (kd, ln, lk)) 38)]) := Lib.hid (by
      have h := S1.out.drew.sub (M := [(w.heap.size + 1, .cells #[.int .i64 0, .int .i64 0, .int .i64 0] 38)]) (by simp)
      exact ((h.set (i := 0) (.int .i64 kd) (by simp)).set (i := 1) (.int .i64 (ln : Nat)) (by simp)).set (i := 2) (.int .i64 (lk : Nat)) (by simp))
    clear hc
    go_upto_region 3 with fail
    go_still_tail 11, (by kernel_rfl)
    change wpList _ _ _ _ _ W.drew
    go_wp2_with fail
    refine bodyPost_ret (v := .agg (rwA (pcF ks ((m : Int), ln, lk)))) (HRES.out _ _ HR.out HX.out _ rfl).1 rfl ⟨rfl, (HRES.out _ _ HR.out HX.out #[undef, undef, undef, undef, .pointer (some ⟨w.heap.size + 1, 0, none⟩)] rfl).2⟩
end Go.Proofs.Ytemkppjdfjoipaa
end
section
/- Packages dfa, mini, munch. -/
namespace Go.Proofs.Ytemkppjdfjoipaa
set_option linter.unusedSimpArgs false
set_option linter.unusedVariables false
set_option maxRecDepth 100000
open Go.RowKit
/- munch.At. -/
theorem loadAt26 {w : World} {b : Nat} {ds : Array Value} (hc : BX w b ds) (hs : ds.size = 259) : (Instr.loadAt 61 (.pointer (some ⟨b, 0, none⟩))).run Try.prog w = .ok (.agg ds) w := by
  have := run_loadAt_mid (P := Try.prog) w b 0 61 ds.toList _ (fun j v hj => by rw [Nat.zero_add, hc.cell]; simpa using hj) Try.underlying61 rfl (by rw [info26]; simp [hs])
  simpa using this
theorem yieldsIf_load_D {ops : Array Oper} {S : World → Prop} {op : Oper} {a : Act} (hw : Region.wanted op (yielded ops a.tmps) = true) (x : Operand) (ho : op.op = .load 61 x)
    (b : Nat) (hx : a.eval x = .pointer (some ⟨b, 0, none⟩)) {ds : Array Value} (hS : ∀ w, S w → BX w b ds) (hs : ds.size = 259) : YieldsIf Try.prog ops S op (.agg ds) a :=
  .inl ⟨hw, fun w hw' => by
    unfold execOp
    simp only [ho, hx, loadAt26 (hS w hw') hs, Sem.run_bind, Result.andThen_ok, Sem.run_pure]⟩
theorem results_at {tmps : Array Value} {w : World} {g : Nat} {r n k e : Int} (h6 : tmps.getD 6 undef = .pointer (some ⟨g, 0, none⟩)) (h7 : tmps.getD 7 undef = .int .i64 e) (hg : w.heap[g]? = some (.cells #[.int .i64 r, .int .i64 n, .int .i64 k] 147 (0, 0))) :
    (results Try.f89 tmps).run Try.prog w = .ok (.tuple #[.agg #[.int .i64 r, .int .i64 n, .int .i64 k], .int .i64 e]) w := by
  have h6' : tmps[6]?.getD undef = .pointer (some ⟨g, 0, none⟩) := by simpa using h6
  have h7' : tmps[7]?.getD undef = .int .i64 e := by simpa using h7
  have hl := run_loadVar_row (P := Try.prog) w g 147 147 _ (0, 0) _ hg Try.underlying147 rfl size48
  simp [results, Try.results89, h6', h7', asAddr, hl]
/-- The document's answer, as the program's. -/
def atF (d : Df) (s : ByteArray) (n : Int) : (Int × Nat × Nat) × Int := if chkD d ≠ 0 then ((0, 0, 0), chkD d) else if n < 0 ∨ (s.size : Int) ≤ n then ((0, 0, 0), 4) else (mL d d.st 0 (-1) 0 ((bl s).drop n.toNat), 0)
theorem bl_drop (s : ByteArray) (k : Nat) : bl (s.extract k s.size) = (bl s).drop k := by
  unfold bl
  rw [ByteArray.data_extract]
  simp only [Array.toList_extract, List.map_take, List.map_drop]
  rw [List.take_of_length_le]
  simp
def AtP (w : World) (d : Df) (s : ByteArray) (n : Int) (e : Ending) (w' : World) : Prop := e = .returned (.tuple #[munV (atF d s n).1, .int .i64 (atF d s n).2]) ∧ Below w.heap.size w w'
set_option maxHeartbeats 8000000 in
theorem at_any {D : Nat → Prop} {w : World} {d : Df} {ds : Array Value} {p q : Option Addr} {c f : Nat} (s : ByteArray) (n : Int) (hd : DC d ds p q c f) (hm : DM D w d p q c f) (hs : s.size ≤ 9223372036854775806) :
    Calls Try.prog 89 #[.agg ds, .string s, .int .i64 n] w (AtP w d s n) := by
  have hs0 := ((Sb.start w).alloc (.cells ds 61)).alloc (.cells #[.int .i64 0, .int .i64 0, .int .i64 0] 147)
  have hs1 : (w.alloc (.cells ds 61)).heap.size = w.heap.size + 1 := by simp
  rw [hs1] at hs0
  have S0 := Lib.hid hs0
  have HD := Lib.hid hd
  have HM := Lib.hid hm
  have HSZ := Lib.hid hd.sz
  have hz48 := zero48
  have HB0 : Hid (BX ((w.alloc (.cells ds 61)).alloc (.cells #[.int .i64 0, .int .i64 0, .int .i64 0] 147)) w.heap.size ds) := Lib.hid hs0.tl.heap
  have HCK := Lib.hid (check_any hd (hm.up hs0.1))
  obtain ⟨ck, hck⟩ : ∃ ck, chkD d = ck := ⟨_, rfl⟩
  rw [hck] at HCK
  have HC := Lib.hid hck
  clear hd hm hs0 hs1 hck
  go_enter Try.func89, Try.ntmps89
  go_wp2_with (refine wpList_load_Dg _ rfl w.heap.size ds rfl HB0.out HSZ.out rfl ?_)
  refine HCK.out.mono ?_
  rintro _ w1 ⟨rfl, hb1⟩
  have S1 := Lib.hid (S0.out.up hb1)
  have o0 : w1.cell? ⟨w.heap.size + 1, 0, none⟩ = some (.int .i64 0) := S1.out.cell 0
  have o1 : w1.cell? ⟨w.heap.size + 1, 1, none⟩ = some (.int .i64 0) := S1.out.cell 1
  have o2 : w1.cell? ⟨w.heap.size + 1, 2, none⟩ = some (.int .i64 0) := S1.out.cell 2
  have g0 : w1.frozen? ⟨w.heap.size + 1, 0, none⟩ = false := S1.out.free 0
  have g1 : w1.frozen? ⟨w.heap.size + 1, 1, none⟩ = false := S1.out.free 1
  have g2 : w1.frozen? ⟨w.heap.size + 1, 2, none⟩ = false := S1.out.free 2
  clear hb1 S0 HB0 HCK
  obtain ⟨R, hR⟩ : ∃ R, atF d s n = R := ⟨_, rfl⟩
  have HR := Lib.hid hR
  have HP : Hid (∀ r m k e W', Sb w W' [(w.heap.size + 1, .cells #[.int .i64 r, .int .i64 (m : Nat), .int .i64 (k : Nat)] 147)] → ((r, m, k), e) = R → AtP w d s n (.returned (.tuple #[.agg #[.int .i64 r, .int .i64 (m : Nat), .int .i64 (k : Nat)], .int .i64 e])) W') := Lib.hid fun r m k e W' h1 h2 => by
    refine ⟨?_, h1.1⟩
    rw [hR, ← h2]; rfl
  generalize AtP w d s n = POST at *
  clear hR
  by_cases h0 : ck = 0
  · have hne : (ck != 0) = false := by simp [h0]
    have HMAY : Hid (MayD d) := Lib.hid (chk_may (by rw [HC.out, h0]))
    have HR2 : Hid (R = if n < 0 ∨ (s.size : Int) ≤ n then ((0, 0, 0), 4) else (mL d d.st 0 (-1) 0 ((bl s).drop n.toNat), 0)) := Lib.hid (by rw [← HR.out]; unfold atF; rw [if_neg (by rw [HC.out, h0]; simp)])
    by_cases hn : n < 0 ∨ (s.size : Int) ≤ n
    · have HF : Hid ((((0 : Int), (0 : Nat), (0 : Nat)), (4 : Int)) = R) := Lib.hid (by rw [HR2.out, if_pos hn])
      have hyp : Hid (Sb w (((w1.setCell ⟨w.heap.size + 1, 0, none⟩ (.int .i64 0)).setCell ⟨w.heap.size + 1, 1, none⟩ (.int .i64 0)).setCell ⟨w.heap.size + 1, 2, none⟩ (.int .i64 0)) [(w.heap.size + 1, .cells #[.int .i64 0, .int .i64 0, .int .i64 0] 147)]) := Lib.hid (by
        have h0 := S1.out.sub (M := [(w.heap.size + 1, .cells #[.int .i64 0, .int .i64 0, .int .i64 0] 147)]) (by simp)
        exact ((h0.set (i := 0) (.int .i64 0) (by simp)).set (i := 1) (.int .i64 0) (by simp)).set (i := 2) (.int .i64 0) (by simp))
      clear HR HR2 HC
      rcases hn with hn | hn
      · go_wp2_with fail
        refine bodyPost_ret (v := .tuple #[.agg #[.int .i64 0, .int .i64 0, .int .i64 0], .int .i64 4]) (results_at rfl rfl hyp.out.heap) rfl ?_
        exact HP.out 0 0 0 4 _ hyp.out HF.out
      · by_cases hn0 : n < 0
        · exfalso; omega
        · go_wp2_with fail
          refine bodyPost_ret (v := .tuple #[.agg #[.int .i64 0, .int .i64 0, .int .i64 0], .int .i64 4]) (results_at rfl rfl hyp.out.heap) rfl ?_
          exact HP.out 0 0 0 4 _ hyp.out HF.out
    · obtain ⟨m, rfl⟩ : ∃ m : Nat, n = (m : Int) := ⟨n.toNat, by omega⟩
      have HF : Hid ((mL d d.st 0 (-1) 0 ((bl s).drop m), (0 : Int)) = R) := Lib.hid (by rw [HR2.out, if_neg hn, Int.toNat_natCast])
      have hm1 : ¬ (m : Int) < 0 := by omega
      have hm2 : ¬ (s.size : Int) ≤ (m : Int) := by omega
      have hm3 : (m : Int) < (s.size : Int) := by omega
      have hm4 : m ≤ s.size := by omega
      have HBX1 : Hid (BX w1 w.heap.size ds) := Lib.hid S1.out.tl.heap
      have HFS : Hid (mL d d.st 0 (-1) 0 (bl (s.extract m s.size)) = mL d d.st 0 (-1) 0 ((bl s).drop m)) := Lib.hid (by rw [bl_drop])
      have HSZ2 : Hid ((s.extract m s.size).size ≤ 9223372036854775806) := Lib.hid (by simp; omega)
      clear HR HR2 hn
      go_wp2_with fail
      have hs1 := S1.out.drew
      have HS1 := Lib.hid hs1
      have HLG : Hid (∀ v, Below w.heap.size w v → Calls Try.prog 98 #[.agg ds, .string (s.extract m s.size)] v fun e w' => e = .returned (munV (mL d d.st 0 (-1) 0 (bl (s.extract m s.size)))) ∧ Below v.heap.size v w') := Lib.hid fun v hv => longest_any _ HD.out (HM.out.up hv) HMAY.out HSZ2.out
      clear o0 o1 o2 g0 g1 g2 HBX1
      refine wp_region_held_drew (S := fun v => Sb w v [(w.heap.size, .cells ds 61)]) (by kernel_rfl) hs1.tl (fun hHeld => ?_)
      clear hs1
      refine wpAnyH_take (i := 0) (v := .agg ds) rfl (by kernel_rfl) (by kernel_rfl) (by kernel_rfl) (fun _ _ _ h => h) (yieldsIf_load_D (by rfl) (.tmp 3) rfl w.heap.size rfl (fun v hv => hv.heap) HSZ.out) hHeld ?_
      (try simp only [Act.put, List.getElem_toArray, List.getElem_cons_zero, List.getElem_cons_succ, List.setIfInBounds_toArray, List.set_cons_zero, List.set_cons_succ])
      refine wpAnyH_take (i := 1) (v := .string s) rfl (by kernel_rfl) (by kernel_rfl) (by kernel_rfl) (fun _ _ _ h => h) (Or.inl ⟨by rfl, by (intro w hSw; (try dsimp only at hSw); go_simp)⟩) hHeld ?_
      (try simp only [Act.put, List.getElem_toArray, List.getElem_cons_zero, List.getElem_cons_succ, List.setIfInBounds_toArray, List.set_cons_zero, List.set_cons_succ])
      refine wpAnyH_take (i := 2) (v := .int .i64 (m : Nat)) rfl (by kernel_rfl) (by kernel_rfl) (by kernel_rfl) (fun _ _ _ h => h) (Or.inl ⟨by rfl, by (intro w hSw; (try dsimp only at hSw); go_simp)⟩) hHeld ?_
      (try simp only [Act.put, List.getElem_toArray, List.getElem_cons_zero, List.getElem_cons_succ, List.setIfInBounds_toArray, List.set_cons_zero, List.set_cons_succ])
      refine wpAnyH_take (i := 3) (v := .string (s.extract m s.size)) rfl (by kernel_rfl) (by kernel_rfl) (by kernel_rfl) (fun _ _ _ h => h) (Or.inl ⟨by rfl, by (intro w hSw; (try dsimp only at hSw); go_simp)⟩) hHeld ?_
      (try simp only [Act.put, List.getElem_toArray, List.getElem_cons_zero, List.getElem_cons_succ, List.setIfInBounds_toArray, List.set_cons_zero, List.set_cons_succ])
      refine wpAnyH_ready (rs := [4]) (by kernel_rfl) (by simp) ?_
      refine AllReadyH.cons rfl (fun K hK => ?_) (AllReadyH.nil)
      rw [if_pos (by rfl)]
      go_wp2_with fail
      refine (HLG.out _ HS1.out.1).mono ?_
      rintro _ w2 ⟨rfl, hb⟩
      have hs2 := HS1.out.up hb
      have HS2 := Lib.hid hs2
      clear hb HLG HS1 S1
      refine hK.out _ _ hs2.tl (fun hHeld2 => ?_)
      clear hHeld hK hs2
      have hHeld := hHeld2
      (try simp only [Act.put, List.getElem_toArray, List.getElem_cons_zero, List.getElem_cons_succ, List.setIfInBounds_toArray, List.set_cons_zero, List.set_cons_succ])
      rw [HFS.out]
      obtain ⟨⟨r, ln, lk⟩, hres⟩ : ∃ z, mL d d.st 0 (-1) 0 ((bl s).drop m) = z := ⟨_, rfl⟩
      have HF3 : Hid (((r, ln, lk), (0 : Int)) = R) := Lib.hid (by rw [← HF.out, hres])
      rw [hres]
      unfold munV
      simp only []
      have o0 : w2.cell? ⟨w.heap.size + 1, 0, none⟩ = some (.int .i64 0) := HS2.out.cell 0
      have o1 : w2.cell? ⟨w.heap.size + 1, 1, none⟩ = some (.int .i64 0) := HS2.out.cell 1
      have o2 : w2.cell? ⟨w.heap.size + 1, 2, none⟩ = some (.int .i64 0) := HS2.out.cell 2
      have g0 : w2.frozen? ⟨w.heap.size + 1, 0, none⟩ = false := HS2.out.free 0
      have g1 : w2.frozen? ⟨w.heap.size + 1, 1, none⟩ = false := HS2.out.free 1
      have g2 : w2.frozen? ⟨w.heap.size + 1, 2, none⟩ = false := HS2.out.free 2
      have hyp : Hid (Sb w (((w2.setCell ⟨w.heap.size + 1, 0, none⟩ (.int .i64 r)).setCell ⟨w.heap.size + 1, 1, none⟩ (.int .i64 (ln : Nat))).setCell ⟨w.heap.size + 1, 2, none⟩ (.int .i64 (lk : Nat))) [(w.heap.size + 1, .cells #[.int .i64 r, .int .i64 (ln : Nat), .int .i64 (lk : Nat)] 147), (w.heap.size, .cells ds 61)]) := Lib.hid (by
        exact ((HS2.out.set (i := 0) (.int .i64 r) (by simp)).set (i := 1) (.int .i64 (ln : Nat)) (by simp)).set (i := 2) (.int .i64 (lk : Nat)) (by simp))
      refine wpAnyH_ready (rs := [5]) (by kernel_rfl) (by simp) ?_
      refine AllReadyH.cons rfl (fun K hK => ?_) (AllReadyH.nil)
      rw [if_pos (by rfl)]
      go_wp2_with fail
      refine hK.out _ _ hyp.out.tl (fun hHeld2 => ?_)
      clear hHeld hK
      have hHeld := hHeld2
      (try simp only [Act.put, List.getElem_toArray, List.getElem_cons_zero, List.getElem_cons_succ, List.setIfInBounds_toArray, List.set_cons_zero, List.set_cons_succ])
      refine wpAnyH_take (i := 6) (v := .int .i64 0) rfl (by kernel_rfl) (by kernel_rfl) (by kernel_rfl) (fun _ _ _ h => h) (Or.inl ⟨by rfl, by (intro w hSw; (try dsimp only at hSw); go_simp)⟩) hHeld ?_
      (try simp only [Act.put, List.getElem_toArray, List.getElem_cons_zero, List.getElem_cons_succ, List.setIfInBounds_toArray, List.set_cons_zero, List.set_cons_succ])
      refine wpAnyH_done (by kernel_rfl) ?_ _
      clear o0 o1 o2 g0 g1 g2 HS2
      go_wp2_with fail
      refine bodyPost_ret (v := .tuple #[.agg #[.int .i64 r, .int .i64 (ln : Nat), .int .i64 (lk : Nat)], .int .i64 0]) (results_at rfl rfl hyp.out.heap) rfl ?_
      exact HP.out r ln lk 0 _ (hyp.out.sub (by simp)) HF3.out
  · have hne : (ck != 0) = true := by simp [h0]
    have HF : Hid ((((0 : Int), (0 : Nat), (0 : Nat)), ck) = R) := Lib.hid (by rw [← HR.out]; unfold atF; rw [if_pos (by rw [HC.out]; exact h0), HC.out])
    have hyp : Hid (Sb w (((w1.setCell ⟨w.heap.size + 1, 0, none⟩ (.int .i64 0)).setCell ⟨w.heap.size + 1, 1, none⟩ (.int .i64 0)).setCell ⟨w.heap.size + 1, 2, none⟩ (.int .i64 0)) [(w.heap.size + 1, .cells #[.int .i64 0, .int .i64 0, .int .i64 0] 147)]) := Lib.hid (by
      have h0 := S1.out.sub (M := [(w.heap.size + 1, .cells #[.int .i64 0, .int .i64 0, .int .i64 0] 147)]) (by simp)
      exact ((h0.set (i := 0) (.int .i64 0) (by simp)).set (i := 1) (.int .i64 0) (by simp)).set (i := 2) (.int .i64 0) (by simp))
    clear HR HC
    go_wp2_with fail
    refine bodyPost_ret (v := .tuple #[.agg #[.int .i64 0, .int .i64 0, .int .i64 0], .int .i64 ck]) (results_at rfl rfl hyp.out.heap) rfl ?_
    exact HP.out 0 0 0 ck _ hyp.out HF.out
end Go.Proofs.Ytemkppjdfjoipaa
end
