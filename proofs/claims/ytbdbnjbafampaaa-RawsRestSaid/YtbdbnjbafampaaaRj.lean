/- Package raws. -/
import Derived.Test.YtbdbnjbafampaaaProg
import Derived.Test.YtbdbnjbafampaaaRi
import Derived.Test.YtbdbnjbafampaaaEh
import Derived.Test.YtbdbnjbafampaaaDk
import Derived.WalkKit
import Derived.BigFrame
import Derived.WalkMore
import Derived.ScopeJumps
import Derived.StillTailTactics
import Derived.Stop.BytesEq
import Derived.WalkLawsBesides
import Derived.WalkSpells
import Derived.Outline
import Derived.Lib.Walk
import Derived.Lib.Hide
import Derived.Lib.Slices
import Derived.Lib.Strings
import Derived.RegionTactic
import Derived.LoopTactic
import Derived.Below
import Derived.IntWalk
import Derived.Deep.QuietTactic
import Derived.BigQuiet
import Derived.Deep.MidRow
import Derived.Maps.AppendAt
import Derived.Laws.Rows
import Derived.Laws.Tables
import Derived.Deep.WholeRow
import Derived.Deep.Cut
import Derived.Deep.CutRange
import Derived.Lib.SliceRun
import Derived.Laws.MakeOwn
import Derived.Deep.RegionLaw
import Derived.Deep.RegionLawGrows
import Derived.Deep.RegionHeld3
import Derived.RegionCalls
import Derived.Deep.RegionWith
import Derived.Deep.Light
import Derived.Laws.CopyOwn
import Derived.Laws.ResultCell
namespace Go.Proofs.Ytbdbnjbafampaaa
set_option linter.unusedSimpArgs false
set_option linter.unusedVariables false
set_option maxRecDepth 100000
open Go.RowKit
/- The document's Pieces. -/
theorem bl_ne {s : ByteArray} (h : 0 < s.size) : bl s ≠ [] := by
  intro e
  have := congrArg List.length e
  rw [bl_len] at this
  have h2 : s.size = 0 := this
  omega
set_option maxHeartbeats 8000000 in
theorem refpieces_any {D : Nat → Prop} {w : World} {d : Df} {ds : Array Value} {p q : Option Addr} {c f : Nat} {ks : Nat → Int} {n fr : Nat} {qr : Option Addr} (s : ByteArray) (hd : DC d ds p q c f) (hm : DM D w d p q c f) (hmay : MayD d) (hk : KV w ks n qr) (hn : ∀ r ∈ d.rl, r < (n : Int)) (hs : s.size ≤ 1000000) :
    Calls Try.prog 64 #[.slice qr n fr, .agg ds, .string s] w fun e w' => ∃ sl, e = .returned sl ∧ RwO w.heap.size w' (pcA d ks (bl s)) sl ∧ Below w.heap.size w w' := by
  obtain ⟨i0, hi, hz0, hz1, hz2⟩ := info_parts info60
  have HSZ := Lib.hid hd.sz
  have HD := Lib.hid hd
  have HM := Lib.hid hm
  have HMAY := Lib.hid hmay
  have HK := Lib.hid hk
  have HN := Lib.hid hn
  have hz48 := zero48
  have hz60 := zero60
  have S0 := Lib.hid ((Sb.start w).alloc (.cells ds 26))
  obtain ⟨N, hN⟩ : ∃ N, s.size = N := ⟨_, rfl⟩
  obtain ⟨R, hR⟩ : ∃ R, pcA d ks (bl s) = R := ⟨_, rfl⟩
  rw [hR]
  have HR := Lib.hid hR
  rw [hN] at hs
  have HNN := Lib.hid hN
  clear hd hm hmay hk hn hR hN
  go_enter Try.func64, Try.ntmps64
  go_wp2_with fail
  go_loopw [2, 7] (fun i l wr => ∃ (s' : ByteArray) (out : List (Int × Nat × Nat)), i = .string s' ∧ s'.size + out.length ≤ N ∧ Hid (out ++ pcA d ks (bl s') = R) ∧ Hid (RwO (w.heap.size + 1) wr out l) ∧ Hid (Sb w wr [(w.heap.size, .cells ds 26)])) (fun i _ _ => match i with | .string s' => s'.size | _ => 0)
  case atStart => exact ⟨s, [], rfl, by rw [HNN.out]; simp, by simpa using HR, Lib.hid ⟨by simp [rwL], .inl ⟨rfl, rfl⟩⟩, S0⟩
  case round =>
    clear S0 HNN HR
    obtain ⟨s', out, rfl, hso, HO, HW, HS⟩ := hrel
    obtain ⟨wo, rfl⟩ : ∃ wo : World, wo = wr := ⟨_, rfl⟩
    by_cases hlt : 0 < s'.size
    · have hltI : (0 : Int) < (s'.size : Int) := by omega
      have HBX : Hid (BX wo w.heap.size ds) := Lib.hid HS.out.heap
      have HAT := Lib.hid (refof_any s' HD.out (HM.out.up HS.out.1) HMAY.out (by have := hso; omega))
      have hne := bl_ne hlt
      have hfa := ofF_facts HMAY.out hne
      have hfl := pcF_len HMAY.out ks hne
      have hcons := pcA_cons HMAY.out ks hne
      have hrule := fun h => ofF_rule HMAY.out (l := bl s') HN.out h
      rw [bl_len] at hfl
      rw [hcons] at HO
      obtain ⟨⟨r, ln, lk⟩, hof⟩ : ∃ z, ofF d (bl s') = z := ⟨_, rfl⟩
      rw [hof] at HAT HO hfl hrule
      have hr : r < (n : Int) := by
        by_cases h0 : 0 ≤ r
        · exact hrule h0
        · omega
      clear hof hcons hfa hrule hne
      unfold munV at HAT
      simp only [] at HAT
      go_wp2_with (refine wpList_load_Dg _ rfl w.heap.size ds rfl HBX.out HSZ.out rfl ?_)
      refine HAT.out.mono ?_
      rintro _ w1 ⟨rfl, hb⟩
      have S1 := Lib.hid (HS.out.up hb)
      have HW1 := Lib.hid (HW.out.up hb)
      clear hb HAT HBX HS HW
      have S2 := Lib.hid (S1.out.alloc (.cells #[.int .i64 r, .int .i64 (ln : Nat), .int .i64 (lk : Nat)] 48))
      have HW2 := Lib.hid (HW1.out.up ((Below.refl _ _).alloc (Nat.le_refl _) (.cells #[.int .i64 r, .int .i64 (ln : Nat), .int .i64 (lk : Nat)] 48)))
      clear HW1
      have HUB0 : Hid (∀ g, u7.ownBlock = some g → g < w1.heap.size + 1) := Lib.hid fun g hg => by
        have h1 := (World.ownsRow.lt HW2.out g hg).2
        have h2 : (w1.alloc (.cells #[.int .i64 r, .int .i64 (ln : Nat), .int .i64 (lk : Nat)] 48)).heap.size = w1.heap.size + 1 := by simp
        rw [h2] at h1; exact h1
      have S3 := Lib.hid (S2.out.alloc (.cells #[.int .i64 23, .int .i64 1, .int .i64 (lk : Nat)] 60))
      have HW3 := Lib.hid (HW2.out.up ((Below.refl _ _).alloc (Nat.le_refl _) (.cells #[.int .i64 23, .int .i64 1, .int .i64 (lk : Nat)] 60)))
      have hs3 : (w1.alloc (.cells #[.int .i64 r, .int .i64 (ln : Nat), .int .i64 (lk : Nat)] 48)).heap.size = w1.heap.size + 1 := by simp
      rw [hs3] at S3
      clear S2 HW2 hs3
      go_upto_region 5 with fail
      obtain ⟨b2, hb2⟩ : ∃ b2, w1.heap.size = b2 := ⟨_, rfl⟩
      obtain ⟨b3, hb3⟩ : ∃ b3, w1.heap.size + 1 = b3 := ⟨_, rfl⟩
      rw [hb3] at S3 HUB0 ⊢
      rw [hb2] at S3 ⊢
      have HUB := HUB0
      refine at_world (fun y => RwO (w.heap.size + 1) y out u7 ∧ Sb w y [(b3, .cells #[.int .i64 23, .int .i64 1, .int .i64 (lk : Nat)] 60), (b2, .cells #[.int .i64 r, .int .i64 (ln : Nat), .int .i64 (lk : Nat)] 48), (w.heap.size, .cells ds 26)]) ⟨HW3.out, S3.out⟩ fun y hy => ?_
      have HW4 := Lib.hid hy.1
      have S4 := Lib.hid hy.2
      have hb23 : b2 ≠ b3 := by omega
      clear hy S3 HW3 hb2 hb3 HUB0
      have m0 : y.cell? ⟨b2, 0, none⟩ = some (.int .i64 r) := S4.out.tl.cell 0
      by_cases h0 : r < 0
      · have hpc : pcF ks (r, ln, lk) = (23, 1, lk) := by unfold pcF; rw [if_pos h0]
        rw [hpc] at HO hfl
        simp only [] at hfl HO
        obtain ⟨hf1, hf2, -, -⟩ := hfl
        have HW5 := HW4
        have S5 : Hid (Sb w y [(b3, .cells #[.int .i64 23, .int .i64 1, .int .i64 (lk : Nat)] 60), (w.heap.size, .cells ds 26)]) := Lib.hid (S4.out.sub (by simp))
        clear HW4 S4 hpc
        go_upto_region 7 with fail
        clear m0
        have c0 : y.cell? ⟨b3, 0, none⟩ = some (.int .i64 23) := S5.out.cell 0
        have c1 : y.cell? ⟨b3, 1, none⟩ = some (.int .i64 1) := S5.out.cell 1
        have c2 : y.cell? ⟨b3, 2, none⟩ = some (.int .i64 (lk : Nat)) := S5.out.cell 2
        have S6 := Lib.hid (S5.out.alloc (.cells #[.int .i64 23, .int .i64 1, .int .i64 (lk : Nat)] 60))
        have HW6 := Lib.hid (HW5.out.up ((Below.refl _ _).alloc (Nat.le_refl _) (.cells #[.int .i64 23, .int .i64 1, .int .i64 (lk : Nat)] 60)))
        have HNW : Hid (∀ i v, [(.int .i64 23 : Value), .int .i64 1, .int .i64 (lk : Nat)][i]? = some v → (y.alloc (.cells #[.int .i64 23, .int .i64 1, .int .i64 (lk : Nat)] 60)).cell? ((⟨y.heap.size, 0, none⟩ : Addr).add i) = some v) := Lib.hid fun i v hv => by
          have := S6.out.cell i
          rw [show (⟨y.heap.size, 0, none⟩ : Addr).add i = ⟨y.heap.size, i, none⟩ by cases i <;> simp [Addr.add]]
          rw [this]; simpa using hv
        have HB5 : Hid (w.heap.size + 1 ≤ (y.alloc (.cells #[.int .i64 23, .int .i64 1, .int .i64 (lk : Nat)] 60)).heap.size) := Lib.hid (by have := S6.out.tl.tl.lt; omega)
        go_wp2_with (at_builtin; refine wpList_append_own_at _ rfl (.tmp 33) (.tmp 35) 55 rfl (w.heap.size + 1) 60 i0 (.agg #[.int .i64 0, .int .i64 0, .int .i64 0]) 3 24 Try.underlying55 hi hz0 hz1 hz2 rfl (by decide) u7 out.length (rwL out) rfl HW6.out ⟨y.heap.size, 0, none⟩ 1 1 [.int .i64 23, .int .i64 1, .int .i64 (lk : Nat)] rfl rfl HNW.out (by simp [Value.oneCell']) (by unfold maxLen; omega) (by omega) HB5.out ?_)
        intro v' w7 hown7 hgrow7 _ hat7
        have hya := S5.out.1.size
        have hown : Hid (RwO (w.heap.size + 1) w7 (out ++ [(23, 1, lk)]) v') := Lib.hid (by
          unfold RwO
          rw [rwL_app, List.length_append]
          exact hown7)
        have S7 : Hid (Sb w w7 [(b3, .cells #[.int .i64 23, .int .i64 1, .int .i64 (lk : Nat)] 60), (w.heap.size, .cells ds 26)]) := Lib.hid (S6.out.tl.grown hgrow7 (fun g hg => ⟨by have := (World.ownsRow.lt HW5.out g hg).1; omega, fun c hc => by
          have h1 := HUB.out g hg
          simp only [List.mem_cons, List.mem_nil_iff, or_false] at hc
          rcases hc with rfl | rfl
          · show b3 ≠ g; omega
          · show w.heap.size ≠ g
            have := (World.ownsRow.lt HW5.out g hg).1
            omega⟩))
        have HO2 : Hid ((out ++ [(23, 1, lk)]) ++ pcA d ks (bl (s'.extract 1 s'.size)) = R) := Lib.hid (by rw [List.append_assoc, bl_drop]; exact HO)
        have HSZ2 : Hid ((s'.extract 1 s'.size).size = s'.size - 1) := Lib.hid (by simp)
        have cc1 : w7.cell? ⟨b3, 1, none⟩ = some (.int .i64 1) := S7.out.cell 1
        have hplI : (1 : Int) ≤ (s'.size : Int) := by omega
        have hplI2 : ¬ (1 : Int) < 0 := by omega
        have hplN : 1 ≤ s'.size := hf2
        clear hown7 hgrow7 hat7 S6 HW6 S5 HW5 c0 c1 c2 HO
        go_wp2_with fail
        go_roundw
        case rel => exact ⟨_, out ++ [(23, 1, lk)], rfl, by have := HSZ2.out; simp; omega, HO2, hown, Lib.hid S7.out.tl⟩
        case measure => have := HSZ2.out; simp; omega
      · obtain ⟨m, rfl⟩ : ∃ m : Nat, r = (m : Int) := ⟨r.toNat, by omega⟩
        have hmn : m < n := by omega
        obtain ⟨bk, ok, rfl, hck⟩ := HK.out m hmn
        obtain ⟨kd, hkd⟩ : ∃ kd, ks m = kd := ⟨_, rfl⟩
        have hpc : pcF ks ((m : Int), ln, lk) = (kd, ln, lk) := by unfold pcF; rw [if_neg h0, ← hkd]; rfl
        rw [hpc] at HO hfl
        simp only [] at hfl HO
        obtain ⟨hf1, hf2, -, -⟩ := hfl
        rw [hkd] at hck
        have ck0 : y.cell? ⟨bk, ok + m * 7, none⟩ = some (.int .i64 kd) := (cell_same (S4.out.1.block bk (blk_lt hck)) _).trans hck
        clear hck hkd hpc
        have m1 : y.cell? ⟨b2, 1, none⟩ = some (.int .i64 (ln : Nat)) := S4.out.tl.cell 1
        have m2 : y.cell? ⟨b2, 2, none⟩ = some (.int .i64 (lk : Nat)) := S4.out.tl.cell 2
        have e0 : y.cell? ⟨b3, 0, none⟩ = some (.int .i64 23) := S4.out.cell 0
        have e1 : y.cell? ⟨b3, 1, none⟩ = some (.int .i64 1) := S4.out.cell 1
        have e2 : y.cell? ⟨b3, 2, none⟩ = some (.int .i64 (lk : Nat)) := S4.out.cell 2
        have f0 : y.frozen? ⟨b3, 0, none⟩ = false := S4.out.free 0
        have f1 : y.frozen? ⟨b3, 1, none⟩ = false := S4.out.free 1
        have f2 : y.frozen? ⟨b3, 2, none⟩ = false := S4.out.free 2
        have dm0 : y.drew.cell? ⟨b2, 0, none⟩ = some (.int .i64 (m : Nat)) := m0
        have dm1 : y.drew.cell? ⟨b2, 1, none⟩ = some (.int .i64 (ln : Nat)) := m1
        have dm2 : y.drew.cell? ⟨b2, 2, none⟩ = some (.int .i64 (lk : Nat)) := m2
        have dk : y.drew.cell? ⟨bk, ok + m * 7, none⟩ = some (.int .i64 kd) := ck0
        have de0 : y.drew.cell? ⟨b3, 0, none⟩ = some (.int .i64 23) := e0
        have de1 : y.drew.cell? ⟨b3, 1, none⟩ = some (.int .i64 1) := e1
        have de2 : y.drew.cell? ⟨b3, 2, none⟩ = some (.int .i64 (lk : Nat)) := e2
        have df0 : y.drew.frozen? ⟨b3, 0, none⟩ = false := f0
        have df1 : y.drew.frozen? ⟨b3, 1, none⟩ = false := f1
        have df2 : y.drew.frozen? ⟨b3, 2, none⟩ = false := f2
        have hmI : (m : Int) < (n : Int) := by omega
        have SN : Hid (RwO (w.heap.size + 1) (((y.drew.setCell ⟨b3, 0, none⟩ (.int .i64 kd)).setCell ⟨b3, 1, none⟩ (.int .i64 (ln : Nat))).setCell ⟨b3, 2, none⟩ (.int .i64 (lk : Nat))) out u7 ∧ Sb w (((y.drew.setCell ⟨b3, 0, none⟩ (.int .i64 kd)).setCell ⟨b3, 1, none⟩ (.int .i64 (ln : Nat))).setCell ⟨b3, 2, none⟩ (.int .i64 (lk : Nat))) [(b3, .cells #[.int .i64 kd, .int .i64 (ln : Nat), .int .i64 (lk : Nat)] 60), (w.heap.size, .cells ds 26)]) := Lib.hid ⟨by
          have hk0 : RwO (w.heap.size + 1) y.drew out u7 := HW4.out.up (Below.refl _ _).drew
          have hk1 : ∀ (z : World) (i : Nat) (v : Value), RwO (w.heap.size + 1) z out u7 → RwO (w.heap.size + 1) (z.setCell ⟨b3, i, none⟩ v) out u7 := fun z i v h => by
            refine World.ownsRow.kept h (set_grown z b3 i v) ?_
            by_cases hp : u7.ownBlock = none
            · exact .inl hp
            · exact .inr (fun e => by have := HUB.out b3 e; omega)
          exact hk1 _ _ _ (hk1 _ _ _ (hk1 _ _ _ hk0)), by
          have h : Sb w y.drew [(b3, .cells #[.int .i64 23, .int .i64 1, .int .i64 (lk : Nat)] 60), (w.heap.size, .cells ds 26)] := S4.out.drew.sub (by simp)
          have hne : ∀ c ∈ [(w.heap.size, Obj.cells ds 26)], c.1 ≠ b3 := by
            intro c hc
            simp at hc
            subst hc
            show w.heap.size ≠ b3
            intro e
            have h1 := S4.out.heap
            have h2 := S4.out.tl.tl.heap
            rw [← e, h2] at h1
            have := congrArg (fun o => match o with | some (Obj.cells _ t _) => t | _ => 0) h1
            simp at this
          exact ((h.set (i := 0) (.int .i64 kd) hne).set (i := 1) (.int .i64 (ln : Nat)) hne).set (i := 2) (.int .i64 (lk : Nat)) hne⟩
        go_upto_region 6 with fail
        go_still_tail 11, (by kernel_rfl)
        change wpList _ _ _ _ _ y.drew
        go_upto_region 7 with fail
        refine at_world (fun z => RwO (w.heap.size + 1) z out u7 ∧ Sb w z [(b3, .cells #[.int .i64 kd, .int .i64 (ln : Nat), .int .i64 (lk : Nat)] 60), (w.heap.size, .cells ds 26)]) SN.out fun y hy => ?_
        have HW5 := Lib.hid hy.1
        have S5 := Lib.hid hy.2
        clear hy SN HW4 S4 m0 m1 m2 e0 e1 e2 f0 f1 f2 dm0 dm1 dm2 dk de0 de1 de2 df0 df1 df2 ck0
        have c0 : y.cell? ⟨b3, 0, none⟩ = some (.int .i64 kd) := S5.out.cell 0
        have c1 : y.cell? ⟨b3, 1, none⟩ = some (.int .i64 (ln : Nat)) := S5.out.cell 1
        have c2 : y.cell? ⟨b3, 2, none⟩ = some (.int .i64 (lk : Nat)) := S5.out.cell 2
        have S6 := Lib.hid (S5.out.alloc (.cells #[.int .i64 kd, .int .i64 (ln : Nat), .int .i64 (lk : Nat)] 60))
        have HW6 := Lib.hid (HW5.out.up ((Below.refl _ _).alloc (Nat.le_refl _) (.cells #[.int .i64 kd, .int .i64 (ln : Nat), .int .i64 (lk : Nat)] 60)))
        have HNW : Hid (∀ i v, [(.int .i64 kd : Value), .int .i64 (ln : Nat), .int .i64 (lk : Nat)][i]? = some v → (y.alloc (.cells #[.int .i64 kd, .int .i64 (ln : Nat), .int .i64 (lk : Nat)] 60)).cell? ((⟨y.heap.size, 0, none⟩ : Addr).add i) = some v) := Lib.hid fun i v hv => by
          have := S6.out.cell i
          rw [show (⟨y.heap.size, 0, none⟩ : Addr).add i = ⟨y.heap.size, i, none⟩ by cases i <;> simp [Addr.add]]
          rw [this]; simpa using hv
        have HB5 : Hid (w.heap.size + 1 ≤ (y.alloc (.cells #[.int .i64 kd, .int .i64 (ln : Nat), .int .i64 (lk : Nat)] 60)).heap.size) := Lib.hid (by have := S6.out.tl.tl.lt; omega)
        go_wp2_with (at_builtin; refine wpList_append_own_at _ rfl (.tmp 33) (.tmp 35) 55 rfl (w.heap.size + 1) 60 i0 (.agg #[.int .i64 0, .int .i64 0, .int .i64 0]) 3 24 Try.underlying55 hi hz0 hz1 hz2 rfl (by decide) u7 out.length (rwL out) rfl HW6.out ⟨y.heap.size, 0, none⟩ 1 1 [.int .i64 kd, .int .i64 (ln : Nat), .int .i64 (lk : Nat)] rfl rfl HNW.out (by simp [Value.oneCell']) (by unfold maxLen; omega) (by omega) HB5.out ?_)
        intro v' w7 hown7 hgrow7 _ hat7
        have hya := S5.out.1.size
        have hown : Hid (RwO (w.heap.size + 1) w7 (out ++ [(kd, ln, lk)]) v') := Lib.hid (by
          unfold RwO
          rw [rwL_app, List.length_append]
          exact hown7)
        have S7 : Hid (Sb w w7 [(b3, .cells #[.int .i64 kd, .int .i64 (ln : Nat), .int .i64 (lk : Nat)] 60), (w.heap.size, .cells ds 26)]) := Lib.hid (S6.out.tl.grown hgrow7 (fun g hg => ⟨by have := (World.ownsRow.lt HW5.out g hg).1; omega, fun c hc => by
          have h1 := HUB.out g hg
          simp only [List.mem_cons, List.mem_nil_iff, or_false] at hc
          rcases hc with rfl | rfl
          · show b3 ≠ g; omega
          · show w.heap.size ≠ g
            have := (World.ownsRow.lt HW5.out g hg).1
            omega⟩))
        have HO2 : Hid ((out ++ [(kd, ln, lk)]) ++ pcA d ks (bl (s'.extract ln s'.size)) = R) := Lib.hid (by rw [List.append_assoc, bl_drop]; exact HO)
        have HSZ2 : Hid ((s'.extract ln s'.size).size = s'.size - ln) := Lib.hid (by simp)
        have cc1 : w7.cell? ⟨b3, 1, none⟩ = some (.int .i64 (ln : Nat)) := S7.out.cell 1
        have hplI : ((ln : Nat) : Int) ≤ (s'.size : Int) := by omega
        have hplI2 : ¬ ((ln : Nat) : Int) < 0 := by omega
        have hplN : ln ≤ s'.size := hf2
        clear hown7 hgrow7 hat7 S6 HW6 S5 HW5 c0 c1 c2 HO
        go_wp2_with fail
        go_roundw
        case rel => exact ⟨_, out ++ [(kd, ln, lk)], rfl, by have := HSZ2.out; simp; omega, HO2, hown, Lib.hid S7.out.tl⟩
        case measure => have := HSZ2.out; simp; omega
    · have h0 : s'.size = 0 := by omega
      have hltI : ¬ (0 : Int) < (s'.size : Int) := by omega
      have hbl : bl s' = [] := List.length_eq_zero_iff.1 (by rw [bl_len]; exact h0)
      have hout : out = R := by rw [← HO.out, hbl, pcA_nil, List.append_nil]
      subst hout
      clear HO
      go_wp2_with fail
      go_ret
      exact ⟨_, rfl, row_base HW.out (Nat.le_succ _), HS.out.1⟩
end Go.Proofs.Ytbdbnjbafampaaa
