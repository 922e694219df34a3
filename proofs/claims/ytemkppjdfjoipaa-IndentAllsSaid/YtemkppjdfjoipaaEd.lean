/- Packages dfa, mini, munch. -/
import Derived.Test.YtemkppjdfjoipaaProg
import Derived.Test.YtemkppjdfjoipaaEc
import Derived.WalkKit
import Derived.BigFrame
import Derived.WalkMore
import Derived.ScopeJumps
import Derived.StillTailTactics
import Derived.Stop.BytesEq
import Derived.WalkLawsBesides
import Derived.WalkSpells
import Derived.Outline
import Derived.Lib.Walk
import Derived.Lib.Hide
import Derived.Lib.Slices
import Derived.Lib.Strings
import Derived.RegionTactic
import Derived.LoopTactic
import Derived.Below
import Derived.IntWalk
import Derived.Deep.QuietTactic
import Derived.BigQuiet
import Derived.Deep.MidRow
import Derived.Maps.AppendAt
import Derived.Laws.Rows
import Derived.Laws.Tables
import Derived.Deep.WholeRow
import Derived.Deep.Cut
import Derived.Deep.CutRange
import Derived.Lib.SliceRun
import Derived.Laws.MakeOwn
import Derived.Deep.RegionLaw
import Derived.Deep.RegionLawGrows
import Derived.Deep.RegionHeld3
import Derived.RegionCalls
import Derived.Deep.RegionWith
import Derived.Deep.Light
import Derived.Laws.CopyOwn
import Derived.Laws.ResultCell
namespace Go.Proofs.Ytemkppjdfjoipaa
set_option linter.unusedSimpArgs false
set_option linter.unusedVariables false
set_option maxRecDepth 100000
open Go.RowKit
/- munch.At. -/
theorem loadAt26 {w : World} {b : Nat} {ds : Array Value} (hc : BX w b ds) (hs : ds.size = 259) : (Instr.loadAt 61 (.pointer (some ⟨b, 0, none⟩))).run Try.prog w = .ok (.agg ds) w := by
  have := run_loadAt_mid (P := Try.prog) w b 0 61 ds.toList _ (fun j v hj => by rw [Nat.zero_add, hc.cell]; simpa using hj) Try.underlying61 rfl (by rw [info26]; simp [hs])
  simpa using this
theorem yieldsIf_load_D {ops : Array Oper} {S : World → Prop} {op : Oper} {a : Act} (hw : Region.wanted op (yielded ops a.tmps) = true) (x : Operand) (ho : op.op = .load 61 x)
    (b : Nat) (hx : a.eval x = .pointer (some ⟨b, 0, none⟩)) {ds : Array Value} (hS : ∀ w, S w → BX w b ds) (hs : ds.size = 259) : YieldsIf Try.prog ops S op (.agg ds) a :=
  .inl ⟨hw, fun w hw' => by
    unfold execOp
    simp only [ho, hx, loadAt26 (hS w hw') hs, Sem.run_bind, Result.andThen_ok, Sem.run_pure]⟩
theorem results_at {tmps : Array Value} {w : World} {g : Nat} {r n k e : Int} (h6 : tmps.getD 6 undef = .pointer (some ⟨g, 0, none⟩)) (h7 : tmps.getD 7 undef = .int .i64 e) (hg : w.heap[g]? = some (.cells #[.int .i64 r, .int .i64 n, .int .i64 k] 147 (0, 0))) :
    (results Try.f89 tmps).run Try.prog w = .ok (.tuple #[.agg #[.int .i64 r, .int .i64 n, .int .i64 k], .int .i64 e]) w := by
  have h6' : tmps[6]?.getD undef = .pointer (some ⟨g, 0, none⟩) := by simpa using h6
  have h7' : tmps[7]?.getD undef = .int .i64 e := by simpa using h7
  have hl := run_loadVar_row (P := Try.prog) w g 147 147 _ (0, 0) _ hg Try.underlying147 rfl size48
  simp [results, Try.results89, h6', h7', asAddr, hl]
/-- The document's answer, as the program's. -/
def atF (d : Df) (s : ByteArray) (n : Int) : (Int × Nat × Nat) × Int := if chkD d ≠ 0 then ((0, 0, 0), chkD d) else if n < 0 ∨ (s.size : Int) ≤ n then ((0, 0, 0), 4) else (mL d d.st 0 (-1) 0 ((bl s).drop n.toNat), 0)
theorem bl_drop (s : ByteArray) (k : Nat) : bl (s.extract k s.size) = (bl s).drop k := by
  unfold bl
  rw [ByteArray.data_extract]
  simp only [Array.toList_extract, List.map_take, List.map_drop]
  rw [List.take_of_length_le]
  simp
def AtP (w : World) (d : Df) (s : ByteArray) (n : Int) (e : Ending) (w' : World) : Prop := e = .returned (.tuple #[munV (atF d s n).1, .int .i64 (atF d s n).2]) ∧ Below w.heap.size w w'
set_option maxHeartbeats 8000000 in
theorem at_any {D : Nat → Prop} {w : World} {d : Df} {ds : Array Value} {p q : Option Addr} {c f : Nat} (s : ByteArray) (n : Int) (hd : DC d ds p q c f) (hm : DM D w d p q c f) (hs : s.size ≤ 9223372036854775806) :
    Calls Try.prog 89 #[.agg ds, .string s, .int .i64 n] w (AtP w d s n) := by
  have hs0 := ((Sb.start w).alloc (.cells ds 61)).alloc (.cells #[.int .i64 0, .int .i64 0, .int .i64 0] 147)
  have hs1 : (w.alloc (.cells ds 61)).heap.size = w.heap.size + 1 := by simp
  rw [hs1] at hs0
  have S0 := Lib.hid hs0
  have HD := Lib.hid hd
  have HM := Lib.hid hm
  have HSZ := Lib.hid hd.sz
  have hz48 := zero48
  have HB0 : Hid (BX ((w.alloc (.cells ds 61)).alloc (.cells #[.int .i64 0, .int .i64 0, .int .i64 0] 147)) w.heap.size ds) := Lib.hid hs0.tl.heap
  have HCK := Lib.hid (check_any hd (hm.up hs0.1))
  obtain ⟨ck, hck⟩ : ∃ ck, chkD d = ck := ⟨_, rfl⟩
  rw [hck] at HCK
  have HC := Lib.hid hck
  clear hd hm hs0 hs1 hck
  go_enter Try.func89, Try.ntmps89
  go_wp2_with (refine wpList_load_Dg _ rfl w.heap.size ds rfl HB0.out HSZ.out rfl ?_)
  refine HCK.out.mono ?_
  rintro _ w1 ⟨rfl, hb1⟩
  have S1 := Lib.hid (S0.out.up hb1)
  have o0 : w1.cell? ⟨w.heap.size + 1, 0, none⟩ = some (.int .i64 0) := S1.out.cell 0
  have o1 : w1.cell? ⟨w.heap.size + 1, 1, none⟩ = some (.int .i64 0) := S1.out.cell 1
  have o2 : w1.cell? ⟨w.heap.size + 1, 2, none⟩ = some (.int .i64 0) := S1.out.cell 2
  have g0 : w1.frozen? ⟨w.heap.size + 1, 0, none⟩ = false := S1.out.free 0
  have g1 : w1.frozen? ⟨w.heap.size + 1, 1, none⟩ = false := S1.out.free 1
  have g2 : w1.frozen? ⟨w.heap.size + 1, 2, none⟩ = false := S1.out.free 2
  clear hb1 S0 HB0 HCK
  obtain ⟨R, hR⟩ : ∃ R, atF d s n = R := ⟨_, rfl⟩
  have HR := Lib.hid hR
  have HP : Hid (∀ r m k e W', Sb w W' [(w.heap.size + 1, .cells #[.int .i64 r, .int .i64 (m : Nat), .int .i64 (k : Nat)] 147)] → ((r, m, k), e) = R → AtP w d s n (.returned (.tuple #[.agg #[.int .i64 r, .int .i64 (m : Nat), .int .i64 (k : Nat)], .int .i64 e])) W') := Lib.hid fun r m k e W' h1 h2 => by
    refine ⟨?_, h1.1⟩
    rw [hR, ← h2]; rfl
  generalize AtP w d s n = POST at *
  clear hR
  by_cases h0 : ck = 0
  · have hne : (ck != 0) = false := by simp [h0]
    have HMAY : Hid (MayD d) := Lib.hid (chk_may (by rw [HC.out, h0]))
    have HR2 : Hid (R = if n < 0 ∨ (s.size : Int) ≤ n then ((0, 0, 0), 4) else (mL d d.st 0 (-1) 0 ((bl s).drop n.toNat), 0)) := Lib.hid (by rw [← HR.out]; unfold atF; rw [if_neg (by rw [HC.out, h0]; simp)])
    by_cases hn : n < 0 ∨ (s.size : Int) ≤ n
    · have HF : Hid ((((0 : Int), (0 : Nat), (0 : Nat)), (4 : Int)) = R) := Lib.hid (by rw [HR2.out, if_pos hn])
      have hyp : Hid (Sb w (((w1.setCell ⟨w.heap.size + 1, 0, none⟩ (.int .i64 0)).setCell ⟨w.heap.size + 1, 1, none⟩ (.int .i64 0)).setCell ⟨w.heap.size + 1, 2, none⟩ (.int .i64 0)) [(w.heap.size + 1, .cells #[.int .i64 0, .int .i64 0, .int .i64 0] 147)]) := Lib.hid (by
        have h0 := S1.out.sub (M := [(w.heap.size + 1, .cells #[.int .i64 0, .int .i64 0, .int .i64 0] 147)]) (by simp)
        exact ((h0.set (i := 0) (.int .i64 0) (by simp)).set (i := 1) (.int .i64 0) (by simp)).set (i := 2) (.int .i64 0) (by simp))
      clear HR HR2 HC
      rcases hn with hn | hn
      · go_wp2_with fail
        refine bodyPost_ret (v := .tuple #[.agg #[.int .i64 0, .int .i64 0, .int .i64 0], .int .i64 4]) (results_at rfl rfl hyp.out.heap) rfl ?_
        exact HP.out 0 0 0 4 _ hyp.out HF.out
      · by_cases hn0 : n < 0
        · exfalso; omega
        · go_wp2_with fail
          refine bodyPost_ret (v := .tuple #[.agg #[.int .i64 0, .int .i64 0, .int .i64 0], .int .i64 4]) (results_at rfl rfl hyp.out.heap) rfl ?_
          exact HP.out 0 0 0 4 _ hyp.out HF.out
    · obtain ⟨m, rfl⟩ : ∃ m : Nat, n = (m : Int) := ⟨n.toNat, by omega⟩
      have HF : Hid ((mL d d.st 0 (-1) 0 ((bl s).drop m), (0 : Int)) = R) := Lib.hid (by rw [HR2.out, if_neg hn, Int.toNat_natCast])
      have hm1 : ¬ (m : Int) < 0 := by omega
      have hm2 : ¬ (s.size : Int) ≤ (m : Int) := by omega
      have hm3 : (m : Int) < (s.size : Int) := by omega
      have hm4 : m ≤ s.size := by omega
      have HBX1 : Hid (BX w1 w.heap.size ds) := Lib.hid S1.out.tl.heap
      have HFS : Hid (mL d d.st 0 (-1) 0 (bl (s.extract m s.size)) = mL d d.st 0 (-1) 0 ((bl s).drop m)) := Lib.hid (by rw [bl_drop])
      have HSZ2 : Hid ((s.extract m s.size).size ≤ 9223372036854775806) := Lib.hid (by simp; omega)
      clear HR HR2 hn
      go_wp2_with fail
      have hs1 := S1.out.drew
      have HS1 := Lib.hid hs1
      have HLG : Hid (∀ v, Below w.heap.size w v → Calls Try.prog 98 #[.agg ds, .string (s.extract m s.size)] v fun e w' => e = .returned (munV (mL d d.st 0 (-1) 0 (bl (s.extract m s.size)))) ∧ Below v.heap.size v w') := Lib.hid fun v hv => longest_any _ HD.out (HM.out.up hv) HMAY.out HSZ2.out
      clear o0 o1 o2 g0 g1 g2 HBX1
      refine wp_region_held_drew (S := fun v => Sb w v [(w.heap.size, .cells ds 61)]) (by kernel_rfl) hs1.tl (fun hHeld => ?_)
      clear hs1
      refine wpAnyH_take (i := 0) (v := .agg ds) rfl (by kernel_rfl) (by kernel_rfl) (by kernel_rfl) (fun _ _ _ h => h) (yieldsIf_load_D (by rfl) (.tmp 3) rfl w.heap.size rfl (fun v hv => hv.heap) HSZ.out) hHeld ?_
      (try simp only [Act.put, List.getElem_toArray, List.getElem_cons_zero, List.getElem_cons_succ, List.setIfInBounds_toArray, List.set_cons_zero, List.set_cons_succ])
      refine wpAnyH_take (i := 1) (v := .string s) rfl (by kernel_rfl) (by kernel_rfl) (by kernel_rfl) (fun _ _ _ h => h) (Or.inl ⟨by rfl, by (intro w hSw; (try dsimp only at hSw); go_simp)⟩) hHeld ?_
      (try simp only [Act.put, List.getElem_toArray, List.getElem_cons_zero, List.getElem_cons_succ, List.setIfInBounds_toArray, List.set_cons_zero, List.set_cons_succ])
      refine wpAnyH_take (i := 2) (v := .int .i64 (m : Nat)) rfl (by kernel_rfl) (by kernel_rfl) (by kernel_rfl) (fun _ _ _ h => h) (Or.inl ⟨by rfl, by (intro w hSw; (try dsimp only at hSw); go_simp)⟩) hHeld ?_
      (try simp only [Act.put, List.getElem_toArray, List.getElem_cons_zero, List.getElem_cons_succ, List.setIfInBounds_toArray, List.set_cons_zero, List.set_cons_succ])
      refine wpAnyH_take (i := 3) (v := .string (s.extract m s.size)) rfl (by kernel_rfl) (by kernel_rfl) (by kernel_rfl) (fun _ _ _ h => h) (Or.inl ⟨by rfl, by (intro w hSw; (try dsimp only at hSw); go_simp)⟩) hHeld ?_
      (try simp only [Act.put, List.getElem_toArray, List.getElem_cons_zero, List.getElem_cons_succ, List.setIfInBounds_toArray, List.set_cons_zero, List.set_cons_succ])
      refine wpAnyH_ready (rs := [4]) (by kernel_rfl) (by simp) ?_
      refine AllReadyH.cons rfl (fun K hK => ?_) (AllReadyH.nil)
      rw [if_pos (by rfl)]
      go_wp2_with fail
      refine (HLG.out _ HS1.out.1).mono ?_
      rintro _ w2 ⟨rfl, hb⟩
      have hs2 := HS1.out.up hb
      have HS2 := Lib.hid hs2
      clear hb HLG HS1 S1
      refine hK.out _ _ hs2.tl (fun hHeld2 => ?_)
      clear hHeld hK hs2
      have hHeld := hHeld2
      (try simp only [Act.put, List.getElem_toArray, List.getElem_cons_zero, List.getElem_cons_succ, List.setIfInBounds_toArray, List.set_cons_zero, List.set_cons_succ])
      rw [HFS.out]
      obtain ⟨⟨r, ln, lk⟩, hres⟩ : ∃ z, mL d d.st 0 (-1) 0 ((bl s).drop m) = z := ⟨_, rfl⟩
      have HF3 : Hid (((r, ln, lk), (0 : Int)) = R) := Lib.hid (by rw [← HF.out, hres])
      rw [hres]
      unfold munV
      simp only []
      have o0 : w2.cell? ⟨w.heap.size + 1, 0, none⟩ = some (.int .i64 0) := HS2.out.cell 0
      have o1 : w2.cell? ⟨w.heap.size + 1, 1, none⟩ = some (.int .i64 0) := HS2.out.cell 1
      have o2 : w2.cell? ⟨w.heap.size + 1, 2, none⟩ = some (.int .i64 0) := HS2.out.cell 2
      have g0 : w2.frozen? ⟨w.heap.size + 1, 0, none⟩ = false := HS2.out.free 0
      have g1 : w2.frozen? ⟨w.heap.size + 1, 1, none⟩ = false := HS2.out.free 1
      have g2 : w2.frozen? ⟨w.heap.size + 1, 2, none⟩ = false := HS2.out.free 2
      have hyp : Hid (Sb w (((w2.setCell ⟨w.heap.size + 1, 0, none⟩ (.int .i64 r)).setCell ⟨w.heap.size + 1, 1, none⟩ (.int .i64 (ln : Nat))).setCell ⟨w.heap.size + 1, 2, none⟩ (.int .i64 (lk : Nat))) [(w.heap.size + 1, .cells #[.int .i64 r, .int .i64 (ln : Nat), .int .i64 (lk : Nat)] 147), (w.heap.size, .cells ds 61)]) := Lib.hid (by
        exact ((HS2.out.set (i := 0) (.int .i64 r) (by simp)).set (i := 1) (.int .i64 (ln : Nat)) (by simp)).set (i := 2) (.int .i64 (lk : Nat)) (by simp))
      refine wpAnyH_ready (rs := [5]) (by kernel_rfl) (by simp) ?_
      refine AllReadyH.cons rfl (fun K hK => ?_) (AllReadyH.nil)
      rw [if_pos (by rfl)]
      go_wp2_with fail
      refine hK.out _ _ hyp.out.tl (fun hHeld2 => ?_)
      clear hHeld hK
      have hHeld := hHeld2
      (try simp only [Act.put, List.getElem_toArray, List.getElem_cons_zero, List.getElem_cons_succ, List.setIfInBounds_toArray, List.set_cons_zero, List.set_cons_succ])
      refine wpAnyH_take (i := 6) (v := .int .i64 0) rfl (by kernel_rfl) (by kernel_rfl) (by kernel_rfl) (fun _ _ _ h => h) (Or.inl ⟨by rfl, by (intro w hSw; (try dsimp only at hSw); go_simp)⟩) hHeld ?_
      (try simp only [Act.put, List.getElem_toArray, List.getElem_cons_zero, List.getElem_cons_succ, List.setIfInBounds_toArray, List.set_cons_zero, List.set_cons_succ])
      refine wpAnyH_done (by kernel_rfl) ?_ _
      clear o0 o1 o2 g0 g1 g2 HS2
      go_wp2_with fail
      refine bodyPost_ret (v := .tuple #[.agg #[.int .i64 r, .int .i64 (ln : Nat), .int .i64 (lk : Nat)], .int .i64 0]) (results_at rfl rfl hyp.out.heap) rfl ?_
      exact HP.out r ln lk 0 _ (hyp.out.sub (by simp)) HF3.out
  · have hne : (ck != 0) = true := by simp [h0]
    have HF : Hid ((((0 : Int), (0 : Nat), (0 : Nat)), ck) = R) := Lib.hid (by rw [← HR.out]; unfold atF; rw [if_pos (by rw [HC.out]; exact h0), HC.out])
    have hyp : Hid (Sb w (((w1.setCell ⟨w.heap.size + 1, 0, none⟩ (.int .i64 0)).setCell ⟨w.heap.size + 1, 1, none⟩ (.int .i64 0)).setCell ⟨w.heap.size + 1, 2, none⟩ (.int .i64 0)) [(w.heap.size + 1, .cells #[.int .i64 0, .int .i64 0, .int .i64 0] 147)]) := Lib.hid (by
      have h0 := S1.out.sub (M := [(w.heap.size + 1, .cells #[.int .i64 0, .int .i64 0, .int .i64 0] 147)]) (by simp)
      exact ((h0.set (i := 0) (.int .i64 0) (by simp)).set (i := 1) (.int .i64 0) (by simp)).set (i := 2) (.int .i64 0) (by simp))
    clear HR HC
    go_wp2_with fail
    refine bodyPost_ret (v := .tuple #[.agg #[.int .i64 0, .int .i64 0, .int .i64 0], .int .i64 ck]) (results_at rfl rfl hyp.out.heap) rfl ?_
    exact HP.out 0 0 0 ck _ hyp.out HF.out
end Go.Proofs.Ytemkppjdfjoipaa
