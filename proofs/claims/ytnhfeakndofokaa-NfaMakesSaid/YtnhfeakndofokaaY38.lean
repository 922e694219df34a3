/- Texts of package regs, one behind the other. -/
import Derived.Test.YtnhfeakndofokaaProg
import Derived.Test.YtnhfeakndofokaaP89
import Derived.WalkKit
import Derived.WalkLawsBesides
import Derived.WalkSpells
import Derived.Outline
import Derived.Lib.Walk
import Derived.Lib.Hide
import Derived.Lib.Slices
import Derived.Lib.Strings
import Derived.RegionTactic
import Derived.LoopTactic
import Derived.Below
import Derived.IntWalk
import Derived.Deep.QuietTactic
import Derived.BigQuiet
import Derived.Deep.MidRow
import Derived.Maps.AppendAt
import Derived.Laws.Rows
import Derived.Laws.Tables
import Derived.Deep.WholeRow
import Derived.Deep.Cut
import Derived.Deep.CutRange
import Derived.Lib.SliceRun
import Derived.Laws.MakeOwn
import Derived.Deep.RegionLaw
import Derived.Deep.RegionLawGrows
import Derived.Deep.RegionHeld3
import Derived.RegionCalls
import Derived.Deep.RegionWith
import Derived.Deep.Light
import Derived.Laws.CopyOwn
import Derived.Laws.ResultCell
section
/- Package nfa. -/
namespace Go.Proofs.Ytnhfeakndofokaa
set_option linter.unusedSimpArgs false
set_option linter.unusedVariables false
set_option maxRecDepth 100000
open Go.RowKit
/- The document's Flags. -/
theorem info27 : (Try.prog.info? 99).map (fun i => (i.zero, i.size)) = some (some (.agg (fl fun _ => false)), 256) := by kernel_rfl
theorem size27 : (Try.prog.info? 99).map (·.size) = some 256 := (zero_of_info info27).2
theorem zero27 (w : World) : (zeroValue 99).run Try.prog w = .ok (.agg (fl fun _ => false)) w := (zero_of_info info27).1 w
theorem fsize27 (f : Nat → Bool) : (Try.prog.info? 99).map (·.size) = some (fl f).size := by rw [fl_size]; exact size27

theorem u_bit (u : Nat → Int) (k : Nat) : ((((u (k / 64)).toNat / 2 ^ (k % 64) : Nat) : Int) % 2 == 1) = fOf u k := by
  unfold fOf
  rw [Nat.testBit_eq_decide_div_mod_eq, Bool.eq_iff_iff]
  generalize (u (k / 64)).toNat / 2 ^ (k % 64) = y
  simp; omega
def lowF (f : Nat → Bool) (k j : Nat) : Bool := decide (j < k) && f j
theorem lowF_zero (f : Nat → Bool) : lowF f 0 = fun _ => false := by funext j; simp [lowF]
theorem lowF_set (f : Nat → Bool) (k : Nat) : (fl (lowF f k)).setIfInBounds k (.bool (f k)) = fl (lowF f (k + 1)) := by
  refine fl_set _ _ k (f k) fun j _ => ?_
  unfold lowF
  by_cases h : j = k
  · subst h; simp
  · by_cases h1 : j < k
    · simp [h, h1, show j < k + 1 by omega]
    · simp [h, h1, show ¬ j < k + 1 by omega]
theorem lowF_all (f : Nat → Bool) : fl (lowF f 256) = fl f := fl_congr fun j hj => by simp [lowF, hj]

set_option maxHeartbeats 4000000 in
set_option maxRecDepth 100000 in
theorem flags_u {u : Nat → Int} (hu : okW u) (w : World) :
    Calls Try.prog 68 #[uV u] w fun e w' => e = .returned (.agg (fl (fOf u))) ∧ Below w.heap.size w w' := by
  have S0 := Lib.hid ((((Sb.start w).alloc (.cells #[.int .u64 (u 0), .int .u64 (u 1), .int .u64 (u 2), .int .u64 (u 3)] 47)).alloc (.cells (fl fun _ => false) 99)).alloc (.cells (fl fun _ => false) 99))
  have hz := zero27
  unfold uV
  go_enter Try.func68, Try.ntmps68
  go_wp2
  go_loopw [4] (fun i wr => ∃ k : Nat, k ≤ 256 ∧ i = .int .i64 k ∧ Sb w wr [(w.heap.size + 1 + 1, .cells (fl (lowF (fOf u) k)) 99), (w.heap.size + 1, .cells (fl fun _ => false) 99), (w.heap.size, .cells #[.int .u64 (u 0), .int .u64 (u 1), .int .u64 (u 2), .int .u64 (u 3)] 47)]) (fun i _ => 256 - (intOf i).toNat)
  case atStart => exact ⟨0, by omega, rfl, by simpa [lowF_zero] using S0.out⟩
  case round =>
    obtain ⟨k, hk, rfl, hS⟩ := hrel
    have HS := Lib.hid hS
    clear hS
    by_cases hlt : k < 256
    · have hlt' : (k : Int) < 256 := by omega
      have hx0 := hu (k / 64)
      have c0 : wr.cell? ⟨w.heap.size, k / 64, none⟩ = some (.int .u64 (u (k / 64))) := (HS.out.tl.tl.cell (k / 64)).trans (by
        rcases (by omega : k / 64 = 0 ∨ k / 64 = 1 ∨ k / 64 = 2 ∨ k / 64 = 3) with e | e | e | e <;> rw [e] <;> rfl)
      have hW : (((((u (k / 64)).toNat) / 2 ^ (k % 64) : Nat) : Int) % 2 == 1) = fOf u k := u_bit u k
      obtain ⟨x, hxe⟩ : ∃ x : Nat, u (k / 64) = (x : Int) := ⟨(u (k / 64)).toNat, by omega⟩
      rw [hxe] at c0 hx0
      rw [show (u (k / 64)).toNat = x by omega] at hW
      have hx : x < 18446744073709551616 := by omega
      clear hxe hx0
      have hset := Lib.hid (lowF_set (fOf u) k)
      generalize fOf u k = v at hW hset
      have c1 := (HS.out.cell k).trans (fl_get _ k hlt)
      have f1 := HS.out.free k
      have z1 := HS.out.lt
      obtain ⟨wo, rfl⟩ : ∃ wo : World, wo = wr := ⟨_, rfl⟩
      have hm : k % 64 < 64 := Nat.mod_lt _ (by omega)
      go_wp2
      go_loop [5, 6, 21, 22] (fun t i _ _ => ∃ j : Nat, j ≤ k % 64 ∧ i = .int .i64 j ∧ t = .int .u64 (x / 2 ^ j : Nat)) (fun _ i _ _ => k % 64 - (intOf i).toNat)
      case atStart => exact ⟨0, by omega, rfl, by simp⟩
      case round =>
        obtain ⟨j, hj, rfl, rfl⟩ := hrel
        by_cases hlj : j < k % 64
        · have hl : (j : Int) < (k : Int) % 64 := by omega
          have hd : IntKind.u64.wrap (((x / 2 ^ j : Nat) : Int) / 2) = ((x / 2 ^ (j + 1) : Nat) : Int) := by
            rw [Nat.pow_succ, ← Nat.div_div_eq_div_mul, IntKind.wrap_u64]
            have : x / 2 ^ j ≤ x := Nat.div_le_self ..
            generalize x / 2 ^ j = y at this ⊢
            omega
          generalize x / 2 ^ j = y at hd
          generalize hy : x / 2 ^ (j + 1) = y' at hd
          have hy' := Lib.hid hy
          clear hy
          go_wp2
          exact ⟨⟨j + 1, by omega, by go_num, by rw [hy'.out]⟩, by simp [intOf]; omega⟩
        · obtain rfl : j = k % 64 := by omega
          generalize x / 2 ^ (k % 64) = y at hW
          go_wp2
          go_roundw
          case rel => exact ⟨k + 1, by omega, by go_num, by rw [← hset.out]; exact HS.out.set _ (by simp <;> omega)⟩
          case measure => simp [intOf]; omega
    · obtain rfl : k = 256 := by omega
      clear hlt hk
      rw [lowF_all] at HS
      have h2 := Lib.hid HS.out.heap
      have h1 := Lib.hid HS.out.tl.heap
      go_wp2_with (first | (refine wpList_load_row rfl 99 (.tmp 3) rfl (w.heap.size + 1 + 1) rfl 99 (fl (fOf u)) (0, 0) _ h2.out Try.underlying99 rfl (fsize27 (fOf u)) ?_) | (refine wpList_store_row rfl 99 (.tmp 2) (.tmp 28) rfl (w.heap.size + 1) (fl (fOf u)) rfl rfl 99 _ h1.out (fsize27 (fOf u)) (by rw [fl_size, fl_size]) (fl_one (fOf u)) ?_))
      have hE := (HS.out.sub (M := [(w.heap.size + 1, .cells (fl fun _ => false) 99), (w.heap.size, .cells #[.int .u64 (u 0), .int .u64 (u 1), .int .u64 (u 2), .int .u64 (u 3)] 47)]) (by simp)).setRow (cs' := fl (fOf u)) (by simp)
      refine bodyPost_ret (v := .agg (fl (fOf u))) (results_cell_row rfl _ _ (w.heap.size + 1) 99 (fl (fOf u)) (0, 0) _ rfl hE.heap Try.underlying99 rfl (fsize27 (fOf u))) rfl ⟨rfl, hE.1⟩
end Go.Proofs.Ytnhfeakndofokaa
end
section
/- Package nfa. -/
namespace Go.Proofs.Ytnhfeakndofokaa
set_option linter.unusedSimpArgs false
set_option linter.unusedVariables false
set_option maxRecDepth 100000
open Go.RowKit
theorem Sb.flag {w0 w : World} {L : List (Nat × Obj)} {b : Nat} {f : Nat → Bool} {t : TypeId} {fr : Nat × Nat} (h : Sb w0 w ((b, .cells (fl f) t fr) :: L)) (j : Nat) (hj : j < 256) : w.cell? ⟨b, j, none⟩ = some (.bool (f j)) := (h.cell j).trans (fl_get f j hj)

/- The document's Ends: the rest of its kinds, and all. -/
theorem keepEn {v0 v1 v2 v3 v4 v5 v6 : Value} {o0 o1 o2 o3 o4 o5 o6 : Nat} {b0 b1 : Nat} {y w' w'' : World} (h : w'.cell? ⟨b0, o0, none⟩ = some v0 ∧ w'.cell? ⟨b1, o1, none⟩ = some v1 ∧ w'.cell? ⟨b1, o2, none⟩ = some v2 ∧ w'.cell? ⟨b1, o3, none⟩ = some v3 ∧ w'.cell? ⟨b1, o4, none⟩ = some v4 ∧ w'.cell? ⟨b1, o5, none⟩ = some v5 ∧ w'.cell? ⟨b1, o6, none⟩ = some v6 ∧ b0 < w'.heap.size ∧ b1 < w'.heap.size ∧ Below y.heap.size y w') (hb : Below w'.heap.size w' w'') : w''.cell? ⟨b0, o0, none⟩ = some v0 ∧ w''.cell? ⟨b1, o1, none⟩ = some v1 ∧ w''.cell? ⟨b1, o2, none⟩ = some v2 ∧ w''.cell? ⟨b1, o3, none⟩ = some v3 ∧ w''.cell? ⟨b1, o4, none⟩ = some v4 ∧ w''.cell? ⟨b1, o5, none⟩ = some v5 ∧ w''.cell? ⟨b1, o6, none⟩ = some v6 ∧ b0 < w''.heap.size ∧ b1 < w''.heap.size ∧ Below y.heap.size y w'' := by
  obtain ⟨h0, h1, h2, h3, h4, h5, h6, z0, z1, K⟩ := h
  exact ⟨(hb.cell (p := ⟨b0, o0, none⟩) z0).trans h0, (hb.cell (p := ⟨b1, o1, none⟩) z1).trans h1, (hb.cell (p := ⟨b1, o2, none⟩) z1).trans h2, (hb.cell (p := ⟨b1, o3, none⟩) z1).trans h3, (hb.cell (p := ⟨b1, o4, none⟩) z1).trans h4, (hb.cell (p := ⟨b1, o5, none⟩) z1).trans h5, (hb.cell (p := ⟨b1, o6, none⟩) z1).trans h6, Nat.lt_of_lt_of_le z0 hb.size, Nat.lt_of_lt_of_le z1 hb.size, K.trans (hb.mono K.size)⟩
theorem keepEn_k {v0 v1 v2 v3 v4 v5 v6 : Value} {o0 o1 o2 o3 o4 o5 o6 : Nat} {b0 b1 : Nat} {y w' : World} (h : w'.cell? ⟨b0, o0, none⟩ = some v0 ∧ w'.cell? ⟨b1, o1, none⟩ = some v1 ∧ w'.cell? ⟨b1, o2, none⟩ = some v2 ∧ w'.cell? ⟨b1, o3, none⟩ = some v3 ∧ w'.cell? ⟨b1, o4, none⟩ = some v4 ∧ w'.cell? ⟨b1, o5, none⟩ = some v5 ∧ w'.cell? ⟨b1, o6, none⟩ = some v6 ∧ b0 < w'.heap.size ∧ b1 < w'.heap.size ∧ Below y.heap.size y w') : Below y.heap.size y w' := h.2.2.2.2.2.2.2.2.2
/-- What lies in Ends' list after m letters of a set's round. -/
def setF (f g : Nat → Bool) (x : List UInt8) (m j : Nat) : Bool := decide (0 < j) && decide (j ≤ m) && f (j - 1) && g (x.getD (j - 1) 0).toNat
theorem setF_zero (f g : Nat → Bool) (x : List UInt8) (N : Nat) : fbA N (fun _ => false) = fbA N (setF f g x 0) := fbA_congr fun j _ => by
  unfold setF
  by_cases h : 0 < j
  · simp [h, show ¬ j ≤ 0 by omega]
  · simp [h]
theorem setF_step (f g : Nat → Bool) (x : List UInt8) (m N : Nat) (c : UInt8) (hc : x[m]? = some c) (b : Bool) (hb : b = (f m && g c.toNat)) : (fbA N (setF f g x m)).setIfInBounds (m + 1) (.bool b) = fbA N (setF f g x (m + 1)) := by
  rw [fbA_set]
  refine fbA_congr fun j _ => ?_
  by_cases h : j = m + 1
  · subst h
    rw [if_pos rfl, hb]
    unfold setF
    simp [List.getD, hc]
  · rw [if_neg h]
    unfold setF
    rw [show decide (j ≤ m + 1) = decide (j ≤ m) by rw [decide_eq_decide]; omega]
theorem setF_all (u : Nat → Int) (x : List UInt8) (f : Nat → Bool) (j : Nat) (hj : j ≤ x.length) : setF f (fOf u) x x.length j = edF (.mk 2 u []) x f j := by
  rw [Bool.eq_iff_iff, ed_2]
  unfold setF
  simp only [Bool.and_eq_true, decide_eq_true_eq]
  constructor
  · rintro ⟨⟨⟨h1, h2⟩, h3⟩, h4⟩
    refine ⟨j - 1, by omega, by omega, h3, ?_⟩
    rw [List.getD, List.getElem?_eq_getElem (by omega)] at h4
    exact h4
  · rintro ⟨i, hi, rfl, h3, h4⟩
    refine ⟨⟨⟨by omega, by omega⟩, by simpa using h3⟩, ?_⟩
    rw [show i + 1 - 1 = i by omega, List.getD, List.getElem?_eq_getElem hi]
    exact h4
set_option maxHeartbeats 8000000 in
theorem ends_2 {D : Nat → Prop} {u : Nat → Int} {ps : List RT} {x : List UInt8} {v sl : Value} {f : Nat → Bool} {w : World} (hx : x.length ≤ 900) (hD : ∀ b, D b → b < w.heap.size) (hl : ps.length ≤ 9223372036854775806) (h : RV D w (.mk 2 u ps) v) (hf : BL (x.length + 1) f sl w) (HFL : Hid (∀ w, Calls Try.prog 68 #[uV u] w fun e w' => e = .returned (.agg (fl (fOf u))) ∧ Below w.heap.size w w')) :
    Calls Try.prog 59 #[v, .string (bs x), sl] w (EiP (x.length + 1) (edF (.mk 2 u []) x f) w) := by
  obtain ⟨i0, hi, hz0, hz1, hz2⟩ := info_parts infoB
  obtain ⟨p, c, rfl, hp⟩ := h.parts
  have HP := Lib.hid hp
  obtain ⟨N, hN⟩ : ∃ N, x.length + 1 = N := ⟨_, rfl⟩
  rw [hN] at hf ⊢
  have hNi : ((x.length : Nat) : Int) + 1 = (N : Int) := by omega
  have hF := hf
  obtain ⟨gs, rfl, hgs⟩ := hf.form
  have HF := Lib.hid hF
  clear h hp hf hF
  have B0 := Lib.hid ((Below.refl w.heap.size w).alloc (Nat.le_refl _) (.cells #[.int .i64 2, .int .u64 (u 0), .int .u64 (u 1), .int .u64 (u 2), .int .u64 (u 3), .slice p ps.length c] 56))
  have X0 := Lib.hid (heap_alloc_last w (.cells #[.int .i64 2, .int .u64 (u 0), .int .u64 (u 1), .int .u64 (u 2), .int .u64 (u 3), .slice p ps.length c] 56))
  have hsw : (w.alloc (.cells #[.int .i64 2, .int .u64 (u 0), .int .u64 (u 1), .int .u64 (u 2), .int .u64 (u 3), .slice p ps.length c] 56)).heap.size = w.heap.size + 1 := by simp
  go_enter Try.func59, Try.ntmps59
  go_wp2_with (at_make; refine wpList_make_full _ rfl (.tmp 14) (.tmp 14) 71 rfl w.heap.size 4 i0 (.bool false) 1 Try.underlying71 hi hz0 hz1 .i64 .i64 _ _ N rfl rfl ?l1 ?l2 ?b2 ?b3 ?b4 ?_)
  case l1 => first | exact hNi | (simp; omega) | omega
  case l2 => first | exact hNi | (simp; omega) | omega
  case b2 => rw [hz2]; omega
  case b3 => unfold maxLen; omega
  case b4 => simp
  intro w1 hown hgrow
  first | rw [made_fb] at hown | rw [hsw, made_fb] at hown
  have HG := Lib.hid (own_fb hown)
  have HW := Lib.hid (below_grown6 (B := w.heap.size) B0.out hgrow (fun g h => by cases h) (by rw [hsw]; omega))
  have hX1 : w1.heap[w.heap.size]? = some (.cells #[.int .i64 2, .int .u64 (u 0), .int .u64 (u 1), .int .u64 (u 2), .int .u64 (u 3), .slice p ps.length c] 56 (0, 0)) := (hgrow.block _ (by rw [hsw]; omega) (fun h => by cases h)).trans X0.out
  have HE0 := Lib.hid ((⟨hX1, HG.out, HF.out.up HW.out, HW.out⟩ : EW w N #[.int .i64 2, .int .u64 (u 0), .int .u64 (u 1), .int .u64 (u 2), .int .u64 (u 3), .slice p ps.length c] (fun _ => false) gs f w1))
  clear hown hgrow HG HW hX1 X0 B0
  have q0 : w1.cell? ⟨w.heap.size, 0, none⟩ = some (.int .i64 2) := cell_of_row w1 _ 0 _ 56 (0, 0) HE0.out.1
  have q1 : w1.cell? ⟨w.heap.size, 1, none⟩ = some (.int .u64 (u 0)) := cell_of_row w1 _ 1 _ 56 (0, 0) HE0.out.1
  have q2 : w1.cell? ⟨w.heap.size, 2, none⟩ = some (.int .u64 (u 1)) := cell_of_row w1 _ 2 _ 56 (0, 0) HE0.out.1
  have q3 : w1.cell? ⟨w.heap.size, 3, none⟩ = some (.int .u64 (u 2)) := cell_of_row w1 _ 3 _ 56 (0, 0) HE0.out.1
  have q4 : w1.cell? ⟨w.heap.size, 4, none⟩ = some (.int .u64 (u 3)) := cell_of_row w1 _ 4 _ 56 (0, 0) HE0.out.1
  have hz := zero27
  have S1 : Hid (Sb w w1 [(w.heap.size + 1, .cells (fbA N (setF f (fOf u) x 0)) 4 (0, 0)), (w.heap.size, .cells #[.int .i64 2, .int .u64 (u 0), .int .u64 (u 1), .int .u64 (u 2), .int .u64 (u 3), .slice p ps.length c] 56 (0, 0))]) := Lib.hid ⟨HE0.out.2.2.2, by
    intro c hc
    simp only [List.mem_cons, List.not_mem_nil, or_false] at hc
    rcases hc with rfl | rfl
    · exact ⟨Nat.le_succ _, by rw [HE0.out.2.1, setF_zero f (fOf u) x N]⟩
    · exact ⟨Nat.le_refl _, HE0.out.1⟩⟩
  clear HE0
  unfold uV at HFL
  go_wp2_with fail
  refine (HFL.out _).mono ?_
  rintro _ w2 ⟨rfl, hb⟩
  have S2 := Lib.hid ((S1.out.up hb).alloc (.cells (fl fun _ => false) 99))
  have h1 := Lib.hid S2.out.heap
  have S3 := Lib.hid (S2.out.setRow (cs' := fl (fOf u)) (by intro c hc; have z1 := (S1.out.up hb).lt; have z2 := (S1.out.up hb).tl.lt; simp at hc; rcases hc with rfl | rfl <;> simp at z1 z2 ⊢ <;> omega))
  have hb2 : w.heap.size + 1 < w2.heap.size := (S1.out.up hb).lt
  clear hb S1 q0 q1 q2 q3 q4
  go_wp2_with (refine wpList_store_row rfl 99 (.tmp 8) (.tmp 27) rfl w2.heap.size (fl (fOf u)) rfl rfl 99 _ h1.out (fsize27 _) (by rw [fl_size, fl_size]) (fl_one _) ?_)
  generalize w2.heap.size = b2 at *
  have S4 := Lib.hid ((S3.out.sub (M := [(w.heap.size + 1, .cells (fbA N (setF f (fOf u) x 0)) 4 (0, 0)), (b2, .cells (fl (fOf u)) 99 (0, 0)), (w.heap.size, .cells #[.int .i64 2, .int .u64 (u 0), .int .u64 (u 1), .int .u64 (u 2), .int .u64 (u 3), .slice p ps.length c] 56 (0, 0))]) (by intro c hc; simp only [List.mem_cons, List.not_mem_nil, or_false] at hc ⊢; rcases hc with rfl | rfl | rfl <;> simp)))
  clear S2 S3 h1
  go_loopw [9] (fun i wr => ∃ m : Nat, m ≤ x.length ∧ i = .int .i64 (m : Nat) ∧ Hid (Sb w wr [(w.heap.size + 1, .cells (fbA N (setF f (fOf u) x m)) 4 (0, 0)), (b2, .cells (fl (fOf u)) 99 (0, 0)), (w.heap.size, .cells #[.int .i64 2, .int .u64 (u 0), .int .u64 (u 1), .int .u64 (u 2), .int .u64 (u 3), .slice p ps.length c] 56 (0, 0))])) (fun i _ => x.length - (intOf i).toNat)
  case atStart => exact ⟨0, by omega, rfl, S4⟩
  case round =>
    obtain ⟨m, hm, rfl, S⟩ := hrel
    clear S4
    by_cases hlt : m < x.length
    · have hlt' : (m : Int) < ((x.length : Nat) : Int) := by omega
      obtain ⟨ch, hch⟩ : ∃ ch, x[m]? = some ch := ⟨x[m], List.getElem?_eq_getElem hlt⟩
      have hg : ∀ h, (bs x)[m]'h = ch := fun h => by have e := List.getElem?_eq_getElem hlt; rw [hch] at e; exact (Option.some.inj e).symm
      have c7 : wr.cell? ⟨gs, m, none⟩ = some (.bool (f m)) := (HF.out.up (S.out.1.mono (Nat.le_refl _))).cell m (by omega)
      have c8 : wr.cell? ⟨b2, ch.toNat, none⟩ = some (.bool (fOf u ch.toNat)) := S.out.tl.flag ch.toNat ch.toNat_lt
      have c9 : wr.cell? ⟨w.heap.size + 1, m + 1, none⟩ = some (.bool (setF f (fOf u) x m (m + 1))) := (S.out.cell (m + 1)).trans (fbA_get N _ (m + 1) (by omega))
      have f9 := S.out.free (m + 1)
      have HS := Lib.hid fun b (hb : b = (f m && fOf u ch.toNat)) => (by
        have h1 := S.out.set (i := m + 1) (.bool b) (by intro c hc; simp only [List.mem_cons, List.not_mem_nil, or_false] at hc; rcases hc with rfl | rfl <;> simp <;> omega)
        rw [setF_step f (fOf u) x m N ch hch b hb] at h1
        exact h1 : Sb w (wr.setCell ⟨w.heap.size + 1, m + 1, none⟩ (.bool b)) [(w.heap.size + 1, .cells (fbA N (setF f (fOf u) x (m + 1))) 4 (0, 0)), (b2, .cells (fl (fOf u)) 99 (0, 0)), (w.heap.size, .cells #[.int .i64 2, .int .u64 (u 0), .int .u64 (u 1), .int .u64 (u 2), .int .u64 (u 3), .slice p ps.length c] 56 (0, 0))])
      have HCH := Lib.hid hch
      have hcl := ch.toNat_lt
      clear hch
      generalize hfm : f m = fm at *
      generalize hgm : fOf u ch.toNat = gm at *
      clear hfm hgm
      generalize setF f (fOf u) x m (m + 1) = ov at *
      cases fm
      · have h9 := Lib.hid (HS.out false (by simp))
        clear HS S
        go_wp2_with fail
        go_roundw
        case rel => exact ⟨m + 1, by omega, by go_num, h9⟩
        case measure => simp [intOf]; omega
      · have h9 := Lib.hid (HS.out gm (by simp))
        clear HS S
        go_wp2_with fail
        go_roundw
        case rel => exact ⟨m + 1, by omega, by go_num, h9⟩
        case measure => simp [intOf]; omega
    · obtain rfl : m = x.length := by omega
      have hlt' : ¬ ((x.length : Nat) : Int) < ((x.length : Nat) : Int) := by omega
      have HR : Hid (BL N (edF (.mk 2 u []) x f) (.slice (some ⟨w.heap.size + 1, 0, none⟩) N N) wr) := Lib.hid ⟨_, rfl, by rw [S.out.heap, fbA_congr fun j hj => setF_all u x f j (by omega)]⟩
      have q0 : wr.cell? ⟨w.heap.size, 0, none⟩ = some (.int .i64 2) := S.out.tl.tl.cell 0
      go_wp2_with fail
      go_ret
      exact ⟨⟨_, rfl, HR.out⟩, S.out.1⟩
set_option maxHeartbeats 8000000 in
theorem ends_6 {D : Nat → Prop} {u : Nat → Int} {ps : List RT} {x : List UInt8} {v sl : Value} {f : Nat → Bool} {w : World} (hx : x.length ≤ 900) (hD : ∀ b, D b → b < w.heap.size) (hl : ps.length ≤ 9223372036854775806) (h : RV D w (.mk 6 u ps) v) (hf : BL (x.length + 1) f sl w) (h1 : Hid (ps.length = 1)) (hI : ∀ i (hi : i < ps.length), EnC D ps[i] x) :
    Calls Try.prog 59 #[v, .string (bs x), sl] w (EiP (x.length + 1) (edF (.mk 6 u ps) x f) w) := by
  obtain ⟨i0, hi, hz0, hz1, hz2⟩ := info_parts infoB
  obtain ⟨p, c, rfl, hp⟩ := h.parts
  have HP := Lib.hid hp
  obtain ⟨N, hN⟩ : ∃ N, x.length + 1 = N := ⟨_, rfl⟩
  rw [hN] at hf ⊢
  have hNi : ((x.length : Nat) : Int) + 1 = (N : Int) := by omega
  have hF := hf
  obtain ⟨gs, rfl, hgs⟩ := hf.form
  have HF := Lib.hid hF
  clear h hp hf hF
  have B0 := Lib.hid ((Below.refl w.heap.size w).alloc (Nat.le_refl _) (.cells #[.int .i64 6, .int .u64 (u 0), .int .u64 (u 1), .int .u64 (u 2), .int .u64 (u 3), .slice p ps.length c] 56))
  have X0 := Lib.hid (heap_alloc_last w (.cells #[.int .i64 6, .int .u64 (u 0), .int .u64 (u 1), .int .u64 (u 2), .int .u64 (u 3), .slice p ps.length c] 56))
  have hsw : (w.alloc (.cells #[.int .i64 6, .int .u64 (u 0), .int .u64 (u 1), .int .u64 (u 2), .int .u64 (u 3), .slice p ps.length c] 56)).heap.size = w.heap.size + 1 := by simp
  go_enter Try.func59, Try.ntmps59
  go_wp2_with (at_make; refine wpList_make_full _ rfl (.tmp 14) (.tmp 14) 71 rfl w.heap.size 4 i0 (.bool false) 1 Try.underlying71 hi hz0 hz1 .i64 .i64 _ _ N rfl rfl ?l1 ?l2 ?b2 ?b3 ?b4 ?_)
  case l1 => first | exact hNi | (simp; omega) | omega
  case l2 => first | exact hNi | (simp; omega) | omega
  case b2 => rw [hz2]; omega
  case b3 => unfold maxLen; omega
  case b4 => simp
  intro w1 hown hgrow
  first | rw [made_fb] at hown | rw [hsw, made_fb] at hown
  have HG := Lib.hid (own_fb hown)
  have HW := Lib.hid (below_grown6 (B := w.heap.size) B0.out hgrow (fun g h => by cases h) (by rw [hsw]; omega))
  have hX1 : w1.heap[w.heap.size]? = some (.cells #[.int .i64 6, .int .u64 (u 0), .int .u64 (u 1), .int .u64 (u 2), .int .u64 (u 3), .slice p ps.length c] 56 (0, 0)) := (hgrow.block _ (by rw [hsw]; omega) (fun h => by cases h)).trans X0.out
  have HE0 := Lib.hid ((⟨hX1, HG.out, HF.out.up HW.out, HW.out⟩ : EW w N #[.int .i64 6, .int .u64 (u 0), .int .u64 (u 1), .int .u64 (u 2), .int .u64 (u 3), .slice p ps.length c] (fun _ => false) gs f w1))
  clear hown hgrow HG HW hX1 X0 B0 HF
  have hlt : 0 < ps.length := by have := h1.out; omega
  have hne : ps ≠ [] := by intro e; subst e; simp at hlt
  have q0 : w1.cell? ⟨w.heap.size, 0, none⟩ = some (.int .i64 6) := cell_of_row w1 _ 0 _ 56 (0, 0) HE0.out.1
  have q5 : w1.cell? ⟨w.heap.size, 5, none⟩ = some (.slice p ps.length c) := cell_of_row w1 _ 5 _ 56 (0, 0) HE0.out.1
  have i0 : (0 : Int) < ((ps.length : Nat) : Int) := by omega
  obtain ⟨b, o, rfl, hDb, hx9⟩ := HP.out hne
  obtain ⟨k', u', p', n', c', hv, hcell⟩ := hx9 0 hlt
  have hbw := hD b hDb
  have cc : ∀ i y, (nodeC k' u' (.slice p' n' c'))[i]? = some y → w1.cell? ⟨b, o + 0 * 6 + i, none⟩ = some y := fun i y hy => by
    rw [HE0.out.2.2.2.cell (p := ⟨b, o + 0 * 6 + i, none⟩) hbw, ← hcell i y hy, show o + 0 * 6 + i = o + (6 * 0 + i) by omega]
  have d0 : w1.cell? ⟨b, o, none⟩ = some (.int .i64 k') := by have h := cc 0 (.int .i64 k') rfl; simpa using h
  have d1 : w1.cell? ⟨b, o + 1, none⟩ = some (.int .u64 (u' 0)) := by have h := cc 1 (.int .u64 (u' 0)) rfl; simpa using h
  have d2 : w1.cell? ⟨b, o + 2, none⟩ = some (.int .u64 (u' 1)) := by have h := cc 2 (.int .u64 (u' 1)) rfl; simpa using h
  have d3 : w1.cell? ⟨b, o + 3, none⟩ = some (.int .u64 (u' 2)) := by have h := cc 3 (.int .u64 (u' 2)) rfl; simpa using h
  have d4 : w1.cell? ⟨b, o + 4, none⟩ = some (.int .u64 (u' 3)) := by have h := cc 4 (.int .u64 (u' 3)) rfl; simpa using h
  have d5 : w1.cell? ⟨b, o + 5, none⟩ = some (.slice p' n' c') := by have h := cc 5 (.slice p' n' c') rfl; simpa using h
  have HC : Hid (∀ z, Below w1.heap.size w1 z → Calls Try.prog 59 #[.agg (nodeC k' u' (.slice p' n' c')), .string (bs x), .slice (some ⟨gs, 0, none⟩) N N] z (EiP N (edF ps[0] x f) z)) := Lib.hid fun z hz => by
    have := (hI 0 hlt).out (.agg (nodeC k' u' (.slice p' n' c'))) (.slice (some ⟨gs, 0, none⟩) N N) f z (RV.mono (fun b h => h) (fun b hb _ => (hz.block b (Nat.lt_of_lt_of_le (hD b hb) HE0.out.2.2.2.size)).trans (HE0.out.2.2.2.block b (hD b hb))) hv) (fun b hb => Nat.lt_of_lt_of_le (hD b hb) (Nat.le_trans HE0.out.2.2.2.size hz.size)) (by rw [hN]; exact HE0.out.2.2.1.up hz)
    rw [hN] at this
    exact this
  have HA : Hid (∀ sl g z, BL N g sl z → Below w1.heap.size w1 z → Calls Try.prog 70 #[.agg (nodeC k' u' (.slice p' n' c')), .string (bs x), sl] z (EiP N (stF ps[0] x g) z)) := Lib.hid fun sl g z hg hz => by
    have := again_walk (sl := sl) (f := g) (w := z) hx (fun b hb => Nat.lt_of_lt_of_le (hD b hb) (Nat.le_trans HE0.out.2.2.2.size hz.size)) (RV.mono (fun b h => h) (fun b hb _ => (hz.block b (Nat.lt_of_lt_of_le (hD b hb) HE0.out.2.2.2.size)).trans (HE0.out.2.2.2.block b (hD b hb))) hv) (by rw [hN]; exact hg) (hI 0 hlt)
    rw [hN] at this
    exact this
  unfold nodeC at HC HA
  have HT : Hid (edF (.mk 6 u ps) x f = stF ps[0] x (edF ps[0] x f)) := Lib.hid (by obtain ⟨t, rfl⟩ := List.length_eq_one_iff.1 h1.out; exact ed_6 u t x f)
  have HB1 := Lib.hid HE0.out.2.2.2
  have z1 : w.heap.size < w1.heap.size := (Array.getElem?_eq_some_iff.1 HE0.out.1).1
  have z2 : b < w1.heap.size := Nat.lt_of_lt_of_le hbw HB1.out.size
  clear HE0 hv hcell hx9 cc
  go_upto_region 25 with fail
  go_region_held3 (fun w' => w'.cell? ⟨w.heap.size, 5, none⟩ = some (.slice (some ⟨b, o, none⟩) ps.length c) ∧ w'.cell? ⟨b, o, none⟩ = some (.int .i64 k') ∧ w'.cell? ⟨b, o + 1, none⟩ = some (.int .u64 (u' 0)) ∧ w'.cell? ⟨b, o + 2, none⟩ = some (.int .u64 (u' 1)) ∧ w'.cell? ⟨b, o + 3, none⟩ = some (.int .u64 (u' 2)) ∧ w'.cell? ⟨b, o + 4, none⟩ = some (.int .u64 (u' 3)) ∧ w'.cell? ⟨b, o + 5, none⟩ = some (.slice p' n' c') ∧ w.heap.size < w'.heap.size ∧ b < w'.heap.size ∧ Below w1.heap.size w1 w')
    (first | assumption | exact ⟨q5, d0, d1, d2, d3, d4, d5, z1, z2, below_drewN (Below.refl _ _) 1⟩ | exact keepEn (by assumption) hb)
    (first | (go_at_call 59; refine (HC.out _ (keepEn_k (by assumption))).mono ?_; rintro _ wq ⟨⟨v7, rfl, hv7⟩, hb⟩) | (go_at_call 70; refine (HA.out _ _ _ hv7 (keepEn_k (by assumption))).mono ?_; rintro _ wz ⟨⟨v8, rfl, hv8⟩, hb⟩))
  all_goals
    rename_i hHeld
    have HR8 : Hid (BL N (edF (.mk 6 u ps) x f) v8 _) := Lib.hid (by rw [HT.out]; exact hv8)
    have HB8 := Lib.hid (HB1.out.trans ((keepEn_k hHeld).mono HB1.out.size))
    clear hHeld hb HC HA HT HB1 q0 q5 d0 d1 d2 d3 d4 d5 z1 z2
    go_wp2_with fail
    go_ret
    exact ⟨⟨_, rfl, HR8.out⟩, HB8.out⟩
end Go.Proofs.Ytnhfeakndofokaa
end
