/- Package raws. -/
import Derived.Test.YtemkppjdfjoipaaProg
import Derived.Test.YtemkppjdfjoipaaU27
import Derived.Test.YtemkppjdfjoipaaEc
import Derived.Test.YtemkppjdfjoipaaDh
import Derived.WalkKit
import Derived.BigFrame
import Derived.WalkMore
import Derived.ScopeJumps
import Derived.StillTailTactics
import Derived.Stop.BytesEq
import Derived.WalkLawsBesides
import Derived.WalkSpells
import Derived.Outline
import Derived.Lib.Walk
import Derived.Lib.Hide
import Derived.Lib.Slices
import Derived.Lib.Strings
import Derived.RegionTactic
import Derived.LoopTactic
import Derived.Below
import Derived.IntWalk
import Derived.Deep.QuietTactic
import Derived.BigQuiet
import Derived.Deep.MidRow
import Derived.Maps.AppendAt
import Derived.Laws.Rows
import Derived.Laws.Tables
import Derived.Deep.WholeRow
import Derived.Deep.Cut
import Derived.Deep.CutRange
import Derived.Lib.SliceRun
import Derived.Laws.MakeOwn
import Derived.Deep.RegionLaw
import Derived.Deep.RegionLawGrows
import Derived.Deep.RegionHeld3
import Derived.RegionCalls
import Derived.Deep.RegionWith
import Derived.Deep.Light
import Derived.Laws.CopyOwn
import Derived.Laws.ResultCell
namespace Go.Proofs.Ytemkppjdfjoipaa
set_option linter.unusedSimpArgs false
set_option linter.unusedVariables false
set_option maxRecDepth 100000
open Go.RowKit
/- raws.piece. -/
def rwA (x : Int × Nat × Nat) : Array Value := #[.int .i64 x.1, .int .i64 (x.2.1 : Nat), .int .i64 (x.2.2 : Nat)]
/-- The rules' kinds, where they lie. -/
def KV (w : World) (ks : Nat → Int) (n : Nat) (q : Option Addr) : Prop := ∀ i, i < n → ∃ b o, q = some ⟨b, o, none⟩ ∧ w.cell? ⟨b, o + i * 7, none⟩ = some (.int .i64 (ks i))
theorem KV.up {w w' : World} {ks : Nat → Int} {n : Nat} {q : Option Addr} (h : KV w ks n q) (hb : Below w.heap.size w w') : KV w' ks n q := fun i hi => by
  obtain ⟨b, o, h1, h2⟩ := h i hi
  exact ⟨b, o, h1, (cell_same (hb.block b (blk_lt h2)) _).trans h2⟩
theorem zero60 : ∀ w, (zeroValue 38).run Try.prog w = .ok (.agg #[.int .i64 0, .int .i64 0, .int .i64 0]) w := (zero_of_info (show (Try.prog.info? 38).map (fun i => (i.zero, i.size)) = some (some (.agg #[.int .i64 0, .int .i64 0, .int .i64 0]), 3) by kernel_rfl)).1
set_option maxHeartbeats 4000000 in
theorem piece_any {w : World} {ks : Nat → Int} {n f : Nat} {q : Option Addr} {r : Int} {ln lk : Nat} (hk : KV w ks n q) (hr : r < (n : Int)) :
    Calls Try.prog 90 #[.slice q n f, munV (r, ln, lk)] w fun e w' => e = .returned (.agg (rwA (pcF ks (r, ln, lk)))) ∧ Below w.heap.size w w' := by
  have hz := zero60
  have hs0 := ((Sb.start w).alloc (.cells #[.int .i64 r, .int .i64 (ln : Nat), .int .i64 (lk : Nat)] 147)).alloc (.cells #[.int .i64 0, .int .i64 0, .int .i64 0] 38)
  have hs1 : (w.alloc (.cells #[.int .i64 r, .int .i64 (ln : Nat), .int .i64 (lk : Nat)] 147)).heap.size = w.heap.size + 1 := by simp
  rw [hs1] at hs0
  have S0 := Lib.hid hs0
  have HK := Lib.hid (hk.up hs0.1)
  have HRES : Hid (∀ W' x, Sb w W' [(w.heap.size + 1, .cells (rwA x) 38)] → x = pcF ks (r, ln, lk) → ∀ T : Array Value, T.getD 4 undef = .pointer (some ⟨w.heap.size + 1, 0, none⟩) → (results Try.f90 T).run Try.prog W' = .ok (.agg (rwA (pcF ks (r, ln, lk)))) W' ∧ Below w.heap.size w W') := Lib.hid fun W' x h1 h2 T hT => by
    subst h2
    exact ⟨results_cell_row rfl T W' (w.heap.size + 1) 38 _ (0, 0) _ hT h1.heap Try.underlying38 rfl (by kernel_rfl), h1.1⟩
  clear hk hs0 hs1
  unfold munV
  simp only []
  go_enter Try.func90, Try.ntmps90
  by_cases h0 : r < 0
  · have HX : Hid ((23, 1, lk) = pcF ks (r, ln, lk)) := Lib.hid (by unfold pcF; rw [if_pos h0])
    have c0 : ((w.alloc (.cells #[.int .i64 r, .int .i64 (ln : Nat), .int .i64 (lk : Nat)] 147)).alloc (.cells #[.int .i64 0, .int .i64 0, .int .i64 0] 38)).cell? ⟨w.heap.size, 0, none⟩ = some (.int .i64 r) := S0.out.tl.cell 0
    have HR : Hid (Sb w ((w.alloc (.cells #[.int .i64 r, .int .i64 (ln : Nat), .int .i64 (lk : Nat)] 147)).alloc (.cells (rwA (23, 1, lk)) 38)) [(w.heap.size + 1, .cells (rwA (23, 1, lk)) 38)]) := Lib.hid (by
      have h := ((Sb.start w).alloc (.cells #[.int .i64 r, .int .i64 (ln : Nat), .int .i64 (lk : Nat)] 147)).alloc (.cells (rwA (23, 1, lk)) 38)
      have hs1 : (w.alloc (.cells #[.int .i64 r, .int .i64 (ln : Nat), .int .i64 (lk : Nat)] 147)).heap.size = w.heap.size + 1 := by simp
      rw [hs1] at h
      exact h.sub (by simp))
    go_wp2_with fail
    refine bodyPost_ret (v := .agg (rwA (pcF ks (r, ln, lk)))) (HRES.out _ _ HR.out HX.out _ rfl).1 rfl ⟨rfl, (HRES.out _ _ HR.out HX.out #[undef, undef, undef, undef, .pointer (some ⟨w.heap.size + 1, 0, none⟩)] rfl).2⟩
  · obtain ⟨m, rfl⟩ : ∃ m : Nat, r = (m : Int) := ⟨r.toNat, by omega⟩
    have hmn : m < n := by omega
    obtain ⟨b, o, rfl, hc⟩ := HK.out m hmn
    have HX : Hid ((ks m, ln, lk) = pcF ks ((m : Int), ln, lk)) := Lib.hid (by unfold pcF; rw [if_neg h0]; rfl)
    obtain ⟨kd, hkd⟩ : ∃ kd, ks m = kd := ⟨_, rfl⟩
    rw [hkd] at hc HX
    clear hkd HK
    go_upto_region 1 with fail
    refine at_world (fun y => Sb w y [(w.heap.size + 1, .cells #[.int .i64 0, .int .i64 0, .int .i64 0] 38), (w.heap.size, .cells #[.int .i64 (m : Nat), .int .i64 (ln : Nat), .int .i64 (lk : Nat)] 147)] ∧ y.cell? ⟨b, o + m * 7, none⟩ = some (.int .i64 kd)) ⟨S0.out, hc⟩ fun W hW => ?_
    have S1 := Lib.hid hW.1
    have hc := hW.2
    clear S0 hW
    have HC := Lib.hid hc
    have c0 : W.cell? ⟨w.heap.size, 0, none⟩ = some (.int .i64 (m : Nat)) := S1.out.tl.cell 0
    have c1 : W.cell? ⟨w.heap.size, 1, none⟩ = some (.int .i64 (ln : Nat)) := S1.out.tl.cell 1
    have c2 : W.cell? ⟨w.heap.size, 2, none⟩ = some (.int .i64 (lk : Nat)) := S1.out.tl.cell 2
    have d0 : W.drew.cell? ⟨w.heap.size, 0, none⟩ = some (.int .i64 (m : Nat)) := c0
    have d1 : W.drew.cell? ⟨w.heap.size, 1, none⟩ = some (.int .i64 (ln : Nat)) := c1
    have d2 : W.drew.cell? ⟨w.heap.size, 2, none⟩ = some (.int .i64 (lk : Nat)) := c2
    have dk : W.drew.cell? ⟨b, o + m * 7, none⟩ = some (.int .i64 kd) := hc
    have e0 : W.drew.cell? ⟨w.heap.size + 1, 0, none⟩ = some (.int .i64 0) := S1.out.cell 0
    have e1 : W.drew.cell? ⟨w.heap.size + 1, 1, none⟩ = some (.int .i64 0) := S1.out.cell 1
    have e2 : W.drew.cell? ⟨w.heap.size + 1, 2, none⟩ = some (.int .i64 0) := S1.out.cell 2
    have f0 : W.drew.frozen? ⟨w.heap.size + 1, 0, none⟩ = false := S1.out.free 0
    have f1 : W.drew.frozen? ⟨w.heap.size + 1, 1, none⟩ = false := S1.out.free 1
    have f2 : W.drew.frozen? ⟨w.heap.size + 1, 2, none⟩ = false := S1.out.free 2
    have e'0 : W.cell? ⟨w.heap.size + 1, 0, none⟩ = some (.int .i64 0) := S1.out.cell 0
    have e'1 : W.cell? ⟨w.heap.size + 1, 1, none⟩ = some (.int .i64 0) := S1.out.cell 1
    have e'2 : W.cell? ⟨w.heap.size + 1, 2, none⟩ = some (.int .i64 0) := S1.out.cell 2
    have f'0 : W.frozen? ⟨w.heap.size + 1, 0, none⟩ = false := S1.out.free 0
    have f'1 : W.frozen? ⟨w.heap.size + 1, 1, none⟩ = false := S1.out.free 1
    have f'2 : W.frozen? ⟨w.heap.size + 1, 2, none⟩ = false := S1.out.free 2
    have hmI : (m : Int) < (n : Int) := by omega
    have HR : Hid (Sb w (((W.drew.setCell ⟨w.heap.size + 1, 0, none⟩ (.int .i64 kd)).setCell ⟨w.heap.size + 1, 1, none⟩ (.int .i64 (ln : Nat))).setCell ⟨w.heap.size + 1, 2, none⟩ (.int .i64 (lk : Nat))) [(w.heap.size + 1, .cells (rwA (kd, ln, lk)) 38)]) := Lib.hid (by
      have h := S1.out.drew.sub (M := [(w.heap.size + 1, .cells #[.int .i64 0, .int .i64 0, .int .i64 0] 38)]) (by simp)
      exact ((h.set (i := 0) (.int .i64 kd) (by simp)).set (i := 1) (.int .i64 (ln : Nat)) (by simp)).set (i := 2) (.int .i64 (lk : Nat)) (by simp))
    clear hc
    go_upto_region 3 with fail
    go_still_tail 11, (by kernel_rfl)
    change wpList _ _ _ _ _ W.drew
    go_wp2_with fail
    refine bodyPost_ret (v := .agg (rwA (pcF ks ((m : Int), ln, lk)))) (HRES.out _ _ HR.out HX.out _ rfl).1 rfl ⟨rfl, (HRES.out _ _ HR.out HX.out #[undef, undef, undef, undef, .pointer (some ⟨w.heap.size + 1, 0, none⟩)] rfl).2⟩
end Go.Proofs.Ytemkppjdfjoipaa
