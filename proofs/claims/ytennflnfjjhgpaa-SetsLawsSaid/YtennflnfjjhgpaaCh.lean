/- The document's Class, whatever the text; its Parse. -/
import Derived.Test.YtennflnfjjhgpaaProg
import Derived.Test.YtennflnfjjhgpaaClA
import Derived.Test.YtennflnfjjhgpaaClB
import Derived.Test.YtennflnfjjhgpaaClC
import Derived.Test.YtennflnfjjhgpaaRS
import Derived.WalkKit
import Derived.WalkLawsBesides
import Derived.WalkSpells
import Derived.Outline
import Derived.Lib.Walk
import Derived.Lib.Hide
import Derived.RegionTactic
import Derived.LoopTactic
import Derived.Below
namespace Go.Proofs.Ytennflnfjjhgpaa
set_option linter.unusedSimpArgs false
set_option linter.unusedVariables false
open Go.RowKit
set_option maxHeartbeats 4000000 in
set_option maxRecDepth 100000 in
theorem class_head (s : ByteArray) (hs : s.size ≤ 140737488355328) (hno : ∀ r, s.data.toList ≠ 91 :: r) (w : World) : Calls Try.prog 37 #[.string s, .int .i64 0] w (ClsP s w) := by
  have S0 := Lib.hid (((Sb.start w).alloc (.cells (fl fun _ => false) 27)).alloc (.cells (fl fun _ => false) 27))
  have e1 : (w.alloc (.cells (fl fun _ => false) 27)).heap.size = w.heap.size + 1 := by simp
  rw [e1] at S0
  have hz := zero27
  have h1 := Lib.hid S0.out.heap
  have h0 := Lib.hid S0.out.tl.heap
  have HE := Lib.hid (S0.out.swap.setRow (cs' := fl fun _ => false) (by simp))
  have HC : Hid (cls s.data.toList = none) := Lib.hid (by
    cases hl : s.data.toList with
    | nil => rfl
    | cons c r => have hc : c ≠ 91 := fun e => hno r (by rw [hl, e])
                  simp [cls, hc])
  by_cases hz0 : s.size = 0
  · obtain rfl : s = ByteArray.empty := by simpa using hz0
    clear hno e1 hz0
    go_enter Try.func37, Try.ntmps37
    go_wp2_with (first | (refine wpList_load_row rfl 27 (.tmp 7) rfl (w.heap.size + 1) rfl 27 (fl fun _ => false) (0, 0) _ h1.out Try.underlying27 rfl (fsize27 _) ?_) | (refine wpList_store_row rfl 27 (.tmp 4) (.tmp 26) rfl w.heap.size (fl fun _ => false) rfl rfl 27 _ h0.out (fsize27 _) rfl (fl_one _) ?_))
    refine bodyPost_ret (v := .tuple #[.agg (fl fun _ => false), .int .i64 0, .bool false]) (res_cls rfl _ _ w.heap.size (fun _ => false) _ _ rfl HE.out.heap rfl rfl) rfl (ClsP.none HC.out HE.out.1 _ rfl)
  · have hlt : 0 < s.size := by omega
    have hc : s[0] ≠ 91 := fun e => hno _ (by rw [← e]; have h9 := drop_at s 0 hlt; simpa using h9)
    have hq : ((s[0].toNat : Int) == 91) = false := neqU _ 91 (by omega) hc
    have hq2 : ((s[0].toNat : Int) != 91) = true := by rw [bne, hq]; rfl
    have hlt' : (0 : Int) < (s.size : Int) := by omega
    have hd : decide ((0 : Int) ≥ (s.size : Int)) = false := by rw [decide_eq_false_iff_not]; omega
    have hd' : ¬ s.size ≤ 0 := by omega
    have hse : ¬ s = ByteArray.empty := fun e => by rw [e] at hlt; exact absurd hlt (by decide)
    clear hno e1 hc hz0
    go_enter Try.func37, Try.ntmps37
    go_wp2_with (first | (refine wpList_load_row rfl 27 (.tmp 7) rfl (w.heap.size + 1) rfl 27 (fl fun _ => false) (0, 0) _ h1.out Try.underlying27 rfl (fsize27 _) ?_) | (refine wpList_store_row rfl 27 (.tmp 4) (.tmp 26) rfl w.heap.size (fl fun _ => false) rfl rfl 27 _ h0.out (fsize27 _) rfl (fl_one _) ?_))
    refine bodyPost_ret (v := .tuple #[.agg (fl fun _ => false), .int .i64 0, .bool false]) (res_cls rfl _ _ w.heap.size (fun _ => false) _ _ rfl HE.out.heap rfl rfl) rfl (ClsP.none HC.out HE.out.1 _ rfl)

theorem WholeC.no (s : ByteArray) (r : List UInt8) (n0 : Nat) (h : s.data.toList = 91 :: r) (hd : s.data.toList.drop n0 = r) (hr : ∀ q, r ≠ 94 :: q) : WholeC s false (bd (s.data.toList.drop n0) fun _ => false) := by
  have hc : cls s.data.toList = bd r fun _ => false := by
    rw [h]
    cases r with
    | nil => rfl
    | cons d q => simp [cls, show d ≠ 94 from fun e => hr q (by rw [e])]
  rw [hd]
  exact ⟨fun h => by rw [hc, h], fun f q h => by rw [hc, h]; rfl⟩
theorem WholeC.yes (s : ByteArray) (q : List UInt8) (n0 : Nat) (h : s.data.toList = 91 :: 94 :: q) (hd : s.data.toList.drop n0 = q) : WholeC s true (bd (s.data.toList.drop n0) fun _ => false) := by
  have hc : cls s.data.toList = (bd q fun _ => false).map fun x => (noF x.1, x.2) := by rw [h]; simp [cls]
  rw [hd]
  exact ⟨fun h => by rw [hc, h]; rfl, fun f q h => by rw [hc, h]; rfl⟩
theorem class_any (s : ByteArray) (hs : s.size ≤ 140737488355328) (w : World) : Calls Try.prog 37 #[.string s, .int .i64 0] w (ClsP s w) := by
  by_cases h : ∃ r, s.data.toList = 91 :: r
  · obtain ⟨r, h⟩ := h
    have hlen : s.data.toList.length = s.size := by simp
    have h0 : 0 < s.size := by rw [← hlen, h]; simp
    have hd0 := drop_at s 0 h0
    rw [List.drop_zero, h] at hd0
    injection hd0 with hd0 hd1
    cases r with
    | nil =>
      have h1 : s.size = 1 := by rw [← hlen, h]; rfl
      exact class_f2 s hs h0 hd0.symm (by omega) (WholeC.no s [] 1 h (by rw [h]; rfl) (by simp)) w
    | cons d q =>
      have h1 : 1 < s.size := by rw [← hlen, h]; simp
      have hd2 := drop_at s 1 h1
      rw [h] at hd2
      simp only [List.drop_succ_cons, List.drop_zero] at hd2
      injection hd2 with hd2 hd3
      by_cases hd : d = 94
      · subst hd
        exact class_t s hs h0 hd0.symm h1 hd2.symm (WholeC.yes s q 2 h (by rw [h]; rfl)) w
      · exact class_f1 s hs h0 hd0.symm h1 (by rw [← hd2]; exact hd) (WholeC.no s (d :: q) 1 h (by rw [h]; rfl) (fun q' e => hd (by injection e))) w
  · exact class_head s hs (fun r e => h ⟨r, e⟩) w

set_option maxHeartbeats 4000000 in
set_option maxRecDepth 100000 in
theorem rparse_any (s : ByteArray) (hs : s.size ≤ 140737488355328) (w : World) :
    Calls Try.prog 27 #[.string s] w fun e w' => e = PE (ps s.data.toList) ∧ Below w.heap.size w w' := by
  have S0 := Lib.hid ((Sb.start w).alloc (.cells z24 24))
  have hcl := Lib.hid (class_any s hs)
  have hlen : s.data.toList.length = s.size := by simp
  have hz := zero27
  have hcases : (ps s.data.toList = none ∧ (cls s.data.toList = none ∨ ∃ f q, cls s.data.toList = some (f, q) ∧ q ≠ [])) ∨ ∃ f, ps s.data.toList = some f ∧ cls s.data.toList = some (f, []) := by
    unfold ps
    cases h : cls s.data.toList with
    | none => exact .inl ⟨rfl, .inl rfl⟩
    | some p =>
      obtain ⟨f, q⟩ := p
      cases q with
      | nil => exact .inr ⟨f, rfl, rfl⟩
      | cons c q => exact .inl ⟨rfl, .inr ⟨f, c :: q, rfl, by simp⟩⟩
  have HL := Lib.hid hlen
  clear hlen
  rcases hcases with ⟨hp, hc | ⟨f, q, hc, hq⟩⟩ | ⟨f, hp, hc⟩
  · rw [hp]
    have HC := Lib.hid hc
    clear hp hc
    go_enter Try.func27, Try.ntmps27
    go_wp2_with fail
    refine (hcl.out _).mono ?_
    rintro _ w1 ⟨hb, hrest⟩
    rw [HC.out] at hrest
    obtain ⟨n, rfl⟩ := hrest
    have HS1 := Lib.hid (S0.out.up hb)
    clear hb hcl
    unfold cls3
    have HA := Lib.hid (HS1.out.alloc (.cells (fl fun _ => false) 27))
    have hA := Lib.hid HA.out.heap
    have hlt1 : w.heap.size < w1.heap.size := HS1.out.lt
    have HS2 := Lib.hid (HA.out.setRow (cs' := fl (fun _ => false)) (by simp; omega))
    have d0 := HS2.out.tl.cell 0; have d1 := HS2.out.tl.cell 1; have d2 := HS2.out.tl.cell 2; have d3 := HS2.out.tl.cell 3
    have g0 := HS2.out.tl.free 0; have g1 := HS2.out.tl.free 1; have g2 := HS2.out.tl.free 2; have g3 := HS2.out.tl.free 3
    rw [show z24[0]? = some (.int .u64 0) from rfl] at d0
    rw [show z24[1]? = some (.int .u64 0) from rfl] at d1
    rw [show z24[2]? = some (.int .u64 0) from rfl] at d2
    rw [show z24[3]? = some (.int .u64 0) from rfl] at d3
    have z9 := HS2.out.tl.lt
    have HE := Lib.hid (Sb.set4 HS2.out.swap rfl (.int .u64 0) (.int .u64 0) (.int .u64 0) (.int .u64 0) (by simp; omega))
    go_wp2_with (refine wpList_store_row rfl 27 (.tmp 4) (.tmp 10) rfl w1.heap.size (fl (fun _ => false)) rfl rfl 27 _ hA.out (fsize27 _) rfl (fl_one _) ?_)
    refine bodyPost_ret (v := .tuple #[.agg z24, .int .i64 50]) (res_set rfl _ _ w.heap.size z24 _ rfl HE.out.heap rfl rfl) rfl ⟨rfl, HE.out.1⟩
  · rw [hp]
    have HC := Lib.hid hc
    have HQ := Lib.hid hq
    clear hp hc hq
    go_enter Try.func27, Try.ntmps27
    go_wp2_with fail
    refine (hcl.out _).mono ?_
    rintro _ w1 ⟨hb, hrest⟩
    rw [HC.out] at hrest
    obtain ⟨m, hm, hms, rfl⟩ := hrest
    have HS1 := Lib.hid (S0.out.up hb)
    have hne : m ≠ s.size := fun e => HQ.out (by rw [hm, e]; exact drop_end s s.size (Nat.le_refl _))
    have hne' : ((m : Int) == (s.size : Int)) = false := by rw [beq_eq_false_iff_ne]; omega
    have hne2 : ((m : Int) != (s.size : Int)) = true := by rw [bne, hne']; rfl
    clear hb hcl hne hm
    unfold cls3
    have HA := Lib.hid (HS1.out.alloc (.cells (fl fun _ => false) 27))
    have hA := Lib.hid HA.out.heap
    have hlt1 : w.heap.size < w1.heap.size := HS1.out.lt
    have HS2 := Lib.hid (HA.out.setRow (cs' := fl f) (by simp; omega))
    have d0 := HS2.out.tl.cell 0; have d1 := HS2.out.tl.cell 1; have d2 := HS2.out.tl.cell 2; have d3 := HS2.out.tl.cell 3
    have g0 := HS2.out.tl.free 0; have g1 := HS2.out.tl.free 1; have g2 := HS2.out.tl.free 2; have g3 := HS2.out.tl.free 3
    rw [show z24[0]? = some (.int .u64 0) from rfl] at d0
    rw [show z24[1]? = some (.int .u64 0) from rfl] at d1
    rw [show z24[2]? = some (.int .u64 0) from rfl] at d2
    rw [show z24[3]? = some (.int .u64 0) from rfl] at d3
    have z9 := HS2.out.tl.lt
    have HE := Lib.hid (Sb.set4 HS2.out.swap rfl (.int .u64 0) (.int .u64 0) (.int .u64 0) (.int .u64 0) (by simp; omega))
    go_wp2_with (refine wpList_store_row rfl 27 (.tmp 4) (.tmp 10) rfl w1.heap.size (fl f) rfl rfl 27 _ hA.out (fsize27 _) (by rw [fl_size, fl_size]) (fl_one _) ?_)
    refine bodyPost_ret (v := .tuple #[.agg z24, .int .i64 50]) (res_set rfl _ _ w.heap.size z24 _ rfl HE.out.heap rfl rfl) rfl ⟨rfl, HE.out.1⟩
  · rw [hp]
    have HC := Lib.hid hc
    clear hp hc
    go_enter Try.func27, Try.ntmps27
    go_wp2_with fail
    refine (hcl.out _).mono ?_
    rintro _ w1 ⟨hb, hrest⟩
    rw [HC.out] at hrest
    obtain ⟨m, hm, hms, rfl⟩ := hrest
    have HS1 := Lib.hid (S0.out.up hb)
    have hme : m = s.size := by
      have h9 := congrArg List.length hm
      rw [List.length_drop, HL.out] at h9
      simp at h9; omega
    subst hme
    clear hb hcl hm
    unfold cls3
    have hset := Lib.hid (rset_any f)
    have HA := Lib.hid (HS1.out.alloc (.cells (fl fun _ => false) 27))
    have hA := Lib.hid HA.out.heap
    have hlt1 : w.heap.size < w1.heap.size := HS1.out.lt
    have HS2 := Lib.hid (HA.out.setRow (cs' := fl f) (by simp; omega))
    have h2 := Lib.hid HS2.out.heap
    go_wp2_with (first | (refine wpList_store_row rfl 27 (.tmp 4) (.tmp 10) rfl w1.heap.size (fl f) rfl rfl 27 _ hA.out (fsize27 _) (by rw [fl_size, fl_size]) (fl_one _) ?_) | (refine wpList_load_row rfl 27 (.tmp 4) rfl w1.heap.size rfl 27 (fl f) (0, 0) _ h2.out Try.underlying27 rfl (fsize27 _) ?_))
    refine (hset.out _).mono ?_
    rintro _ w4 ⟨rfl, hb⟩
    have HS4 := Lib.hid (HS2.out.up hb)
    clear hb
    have d0 := HS4.out.tl.cell 0; have d1 := HS4.out.tl.cell 1; have d2 := HS4.out.tl.cell 2; have d3 := HS4.out.tl.cell 3
    have g0 := HS4.out.tl.free 0; have g1 := HS4.out.tl.free 1; have g2 := HS4.out.tl.free 2; have g3 := HS4.out.tl.free 3
    rw [show z24[0]? = some (.int .u64 0) from rfl] at d0
    rw [show z24[1]? = some (.int .u64 0) from rfl] at d1
    rw [show z24[2]? = some (.int .u64 0) from rfl] at d2
    rw [show z24[3]? = some (.int .u64 0) from rfl] at d3
    have z9 := HS4.out.tl.lt
    have HE := Lib.hid (Sb.set4 HS4.out.swap rfl (.int .u64 (W f 0)) (.int .u64 (W f 1)) (.int .u64 (W f 2)) (.int .u64 (W f 3)) (by simp; omega))
    go_wp2
    refine bodyPost_ret (v := .tuple #[setV f, .int .i64 0]) (res_set rfl _ _ w.heap.size (wc f) _ rfl HE.out.heap rfl rfl) rfl ⟨rfl, HE.out.1⟩
end Go.Proofs.Ytennflnfjjhgpaa
