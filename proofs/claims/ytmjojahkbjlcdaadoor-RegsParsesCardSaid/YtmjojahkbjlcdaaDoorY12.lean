/- Texts of package regs, one behind the other. -/
import Derived.Test.YtmjojahkbjlcdaaDoorProg
import Derived.Test.YtmjojahkbjlcdaaDoorY3
import Derived.WalkKit
import Derived.WalkLawsBesides
import Derived.WalkSpells
import Derived.Outline
import Derived.Lib.Walk
import Derived.Lib.Hide
import Derived.RegionTactic
import Derived.LoopTactic
import Derived.Below
import Derived.IntWalk
import Derived.Laws.ResultCell
import Derived.Test.YtmjojahkbjlcdaaDoorY4
import Derived.Test.YtmjojahkbjlcdaaDoorY6
import Derived.Lib.Slices
import Derived.Lib.Strings
section
/- The document's Set: four words of 256 flags. -/
namespace Go.Proofs.YtmjojahkbjlcdaaDoor
set_option linter.unusedSimpArgs false
set_option linter.unusedVariables false
set_option maxRecDepth 100000
open Go.RowKit

def zr4 (f : Nat → Bool) (i : Nat) : Array Value := C4 (mix (fun j => .int .u64 (W f j)) (fun _ => .int .u64 0) i)
theorem zr4_zero (f : Nat → Bool) : zr4 f 0 = #[.int .u64 0, .int .u64 0, .int .u64 0, .int .u64 0] := by simp [zr4, C4, mix]
theorem zr4_four (f : Nat → Bool) : zr4 f 4 = wc f := by simp [zr4, C4, mix, wc]
theorem zr4_set (f : Nat → Bool) (i : Nat) : (zr4 f i).setIfInBounds i (.int .u64 (W f i)) = zr4 f (i + 1) := by
  refine C4_set _ _ i _ fun j _ => ?_
  unfold mix
  by_cases e : j = i
  · subst e; simp
  · by_cases h1 : j < i
    · simp [h1, e, show j < i + 1 by omega]
    · simp [h1, e, show ¬ j < i + 1 by omega]
theorem zr4_get (f : Nat → Bool) (i : Nat) (h : i < 4) : (zr4 f i)[i]? = some (.int .u64 0) := by
  unfold zr4; rw [C4_get _ _ h]; simp [mix]
theorem wc_one (f : Nat → Bool) : (wc f).all (·.oneCell') = true := by
  unfold wc
  simp only [Array.all_eq_true]
  intro i hi
  have : i < 4 := hi
  rcases (by omega : i = 0 ∨ i = 1 ∨ i = 2 ∨ i = 3) with rfl | rfl | rfl | rfl <;> rfl
theorem half_step (y : Nat) : y = y / 2 * 2 + (decide (y % 2 = 1)).toNat := by
  by_cases hy : y % 2 = 1
  · rw [decide_eq_true hy]; simp; omega
  · rw [decide_eq_false hy]; simp; omega
theorem W_step (f : Nat → Bool) (i m : Nat) (hm : m < 64) : W f i / 2 ^ m = W f i / 2 ^ (m + 1) * 2 + (f (64 * i + m)).toNat := by
  have h := W_test f i m hm
  rw [Nat.testBit_eq_decide_div_mod_eq] at h
  rw [← h, Nat.pow_succ, ← Nat.div_div_eq_div_mul]
  exact half_step _
theorem dbl (x j : Nat) (v : Bool) (hx : x < 18446744073709551616) (hs : x / 2 ^ j = x / 2 ^ (j + 1) * 2 + v.toNat) : x / 2 ^ (j + 1) * 2 < 18446744073709551616 - v.toNat := by
  have h1 : x / 2 ^ j ≤ x := Nat.div_le_self ..
  generalize x / 2 ^ j = a at hs h1
  generalize x / 2 ^ (j + 1) = b at hs ⊢
  have : v.toNat ≤ 1 := by cases v <;> decide
  omega
theorem W_top (f : Nat → Bool) (i : Nat) : W f i / 2 ^ 64 = 0 := Nat.div_eq_of_lt (W_lt' f i)

theorem fin0 {y y' z : Nat} (h1 : z = y') (h2 : y' = y * 2 + false.toNat) : (y : Int) * 2 = (z : Int) := by subst h1; rw [h2]; simp
theorem fin1 {y y' z : Nat} (h1 : z = y') (h2 : y' = y * 2 + true.toNat) : (y : Int) * 2 + 1 = (z : Int) := by subst h1; rw [h2]; simp
theorem vint {k : IntKind} {a b : Int} (h : a = b) : Value.int k a = .int k b := by rw [h]
set_option maxHeartbeats 4000000 in
set_option maxRecDepth 100000 in
theorem rset_any (f : Nat → Bool) (w : World) :
    Calls Tryd.prog 86 #[.agg (fl f)] w fun e w' => e = .returned (setV f) ∧ Below w.heap.size w w' := by
  have S0 := Lib.hid ((((Sb.start w).alloc (.cells (fl f) 94)).alloc (.cells #[.int .u64 0, .int .u64 0, .int .u64 0, .int .u64 0] 24)).alloc (.cells #[.int .u64 0, .int .u64 0, .int .u64 0, .int .u64 0] 24))
  go_enter Tryd.func86, Tryd.ntmps86
  go_wp2
  go_loopw [4] (fun i wr => ∃ k : Nat, k ≤ 4 ∧ i = .int .i64 k ∧ Sb w wr [(w.heap.size + 1 + 1, .cells (zr4 f k) 24), (w.heap.size + 1, .cells #[.int .u64 0, .int .u64 0, .int .u64 0, .int .u64 0] 24), (w.heap.size, .cells (fl f) 94)]) (fun i _ => 4 - (intOf i).toNat)
  case atStart => exact ⟨0, by omega, rfl, by rw [zr4_zero]; simpa using S0.out⟩
  case round =>
    obtain ⟨i, hi, rfl, hS⟩ := hrel
    have HS := Lib.hid hS
    clear hS
    by_cases hlt : i < 4
    · have hlt' : (i : Int) < 4 := by omega
      have c1 := (HS.out.cell i).trans (zr4_get f i hlt)
      have f1 := HS.out.free i
      have z1 := HS.out.lt
      have hset := Lib.hid (zr4_set f i)
      have hst := Lib.hid (W_step f i)
      have htop := W_top f i
      have hx := Lib.hid (W_lt f i)
      generalize hxx : W f i = x at hset hst htop hx
      clear hxx
      obtain ⟨wo, rfl⟩ : ∃ wo : World, wo = wr := ⟨_, rfl⟩
      go_wp2
      go_loop [5, 6, 15, 16, 17, 18, 19, 20, 21, 22, 23, 24] (fun t c _ _ _ _ _ _ _ _ _ _ => ∃ m : Nat, m ≤ 64 ∧ c = .int .i64 ((m : Int) - 1) ∧ t = .int .u64 (x / 2 ^ m : Nat)) (fun _ c _ _ _ _ _ _ _ _ _ _ => (intOf c + 1).toNat)
      case atStart => exact ⟨64, by omega, rfl, by rw [htop]; rfl⟩
      case round =>
        obtain ⟨m, hm, rfl, rfl⟩ := hrel
        clear htop
        rcases Nat.eq_zero_or_pos m with h0 | h0
        · subst h0
          go_wp2
          go_roundw
          case rel => exact ⟨i + 1, by omega, by go_num, by rw [← hset.out]; simpa using HS.out.set (i := i) (.int .u64 x) (by simp <;> omega)⟩
          case measure => simp [intOf]; omega
        · obtain ⟨j, rfl⟩ : ∃ j, m = j + 1 := ⟨m - 1, by omega⟩
          have hj : j < 64 := by omega
          have hlt2 : i * 64 + j < 256 := by omega
          have c0 := HS.out.tl.tl.flag (i * 64 + j) hlt2
          have hs := hst.out j hj
          rw [show 64 * i + j = i * 64 + j by omega] at hs
          rw [show (((j + 1 : Nat) : Int) - 1) = (j : Int) by omega]
          generalize f (i * 64 + j) = v at c0 hs
          have hb1 := dbl x j v hx.out hs
          generalize x / 2 ^ (j + 1) = y at hs hb1
          generalize hq : x / 2 ^ j = y' at hs
          have hq' := Lib.hid hq
          clear hq
          cases v
          · have hs' := Lib.hid hs
            have hb3 : y * 2 < 18446744073709551616 := by simpa using hb1
            clear hs hb1
            go_wp2
            exact ⟨⟨j, Nat.le_of_lt hj, rfl, vint (fin0 hq'.out hs'.out)⟩, by simp [intOf]⟩
          · have hs' := Lib.hid hs
            have hb3 : y * 2 < 18446744073709551615 := by simpa using hb1
            clear hs hb1
            go_wp2
            exact ⟨⟨j, Nat.le_of_lt hj, rfl, vint (fin1 hq'.out hs'.out)⟩, by simp [intOf]⟩
    · obtain rfl : i = 4 := by omega
      clear hlt hi
      rw [zr4_four] at HS
      have c0 := HS.out.word 0 (by omega); have d0 := HS.out.tl.cell 0; have g0 := HS.out.tl.free 0
      have c1 := HS.out.word 1 (by omega); have d1 := HS.out.tl.cell 1; have g1 := HS.out.tl.free 1
      have c2 := HS.out.word 2 (by omega); have d2 := HS.out.tl.cell 2; have g2 := HS.out.tl.free 2
      have c3 := HS.out.word 3 (by omega); have d3 := HS.out.tl.cell 3; have g3 := HS.out.tl.free 3
      simp at d0 d1 d2 d3
      have z2 := HS.out.lt
      have z3 := HS.out.tl.lt
      have hE := Lib.hid ((((((HS.out.sub (M := [(w.heap.size + 1, .cells #[.int .u64 0, .int .u64 0, .int .u64 0, .int .u64 0] 24)]) (by simp)).set (i := 0) (.int .u64 (W f 0)) (by simp)).set (i := 1) (.int .u64 (W f 1)) (by simp)).set (i := 2) (.int .u64 (W f 2)) (by simp)).set (i := 3) (.int .u64 (W f 3)) (by simp)))
      go_wp2
      refine bodyPost_ret (v := setV f) (results_cell_row rfl _ _ (w.heap.size + 1) 24 (wc f) (0, 0) _ rfl hE.out.heap Tryd.underlying24 rfl (i24 f)) rfl ⟨rfl, hE.out.1⟩
end Go.Proofs.YtmjojahkbjlcdaaDoor
end
section
/- The document's Count: of 256 flags. -/
namespace Go.Proofs.YtmjojahkbjlcdaaDoor
set_option linter.unusedSimpArgs false
set_option linter.unusedVariables false
set_option maxRecDepth 100000
open Go.RowKit

set_option maxHeartbeats 2000000 in
theorem rcount_any (f : Nat → Bool) (w : World) :
    Calls Tryd.prog 77 #[.agg (fl f)] w fun e w' => e = .returned (.int .i64 (cntF f 256 : Nat)) ∧ Below w.heap.size w w' := by
  have S0 := Lib.hid ((Sb.start w).alloc (.cells (fl f) 94))
  go_enter Tryd.func77, Tryd.ntmps77
  go_wp2
  go_loopw [3, 4] (fun n i wr => ∃ k : Nat, k ≤ 256 ∧ i = .int .i64 k ∧ n = .int .i64 (cntF f k : Nat) ∧ Sb w wr [(w.heap.size, .cells (fl f) 94)]) (fun _ i _ => 256 - (intOf i).toNat)
  case atStart => exact ⟨0, by omega, rfl, rfl, S0.out⟩
  case round =>
    obtain ⟨k, hk, rfl, rfl, hS⟩ := hrel
    have HS := Lib.hid hS
    clear hS
    by_cases hlt : k < 256
    · have hlt' : (k : Int) < 256 := by omega
      have c0 := HS.out.flag k hlt
      have hc := cnt_le f k
      have hs : cntF f (k + 1) = cntF f k + (f k).toNat := rfl
      cases hf : f k
      · rw [hf] at c0 hs
        have hs' := Lib.hid hs
        clear hs hf
        go_wp2
        go_roundw
        case rel => exact ⟨k + 1, by omega, by go_num, by rw [hs'.out]; simp, HS.out⟩
        case measure => simp [intOf]; omega
      · rw [hf] at c0 hs
        have hs' := Lib.hid hs
        clear hs hf
        go_wp2
        go_roundw
        case rel => exact ⟨k + 1, by omega, by go_num, by rw [hs'.out]; simp, HS.out⟩
        case measure => simp [intOf]; omega
    · obtain rfl : k = 256 := by omega
      go_wp2
      go_ret
      exact ⟨rfl, HS.out.1⟩
end Go.Proofs.YtmjojahkbjlcdaaDoor
end
section
/- The document's Print: items, one by one. -/
namespace Go.Proofs.YtmjojahkbjlcdaaDoor
set_option linter.unusedSimpArgs false
set_option linter.unusedVariables false
set_option maxRecDepth 100000
open Go.RowKit

def EndAt (f : Nat → Bool) (b m : Nat) : Prop := b ≤ m ∧ m < 256 ∧ (∀ j, b ≤ j → j ≤ m → f j = true) ∧ (m + 1 < 256 → f (m + 1) = false)
def Jp (f : Nat → Bool) (b : Nat) : Prop := b < 256 → 0 < b → f (b - 1) = true → f b = true → (∃ R, runsF f b = R ++ [(b - 1, b - 1)]) ∧ ¬ (b + 1 < 256 ∧ f (b + 1) = true)
theorem runs_stretch (f : Nat → Bool) (b : Nat) (hb : b = 0 ∨ f (b - 1) = false) : ∀ d, (∀ j, b ≤ j → j ≤ b + d → f j = true) → runsF f (b + d + 1) = runsF f b ++ [(b, b + d)]
  | 0, h => runs_new f b (h b (Nat.le_refl _) (Nat.le_refl _)) hb
  | d + 1, h => by
    have ih := runs_stretch f b hb d (fun j h1 h2 => h j h1 (by omega))
    exact runs_on f (b + d + 1) (by omega) (h _ (by omega) (by omega)) (h _ (by omega) (by omega)) _ _ ih
theorem items_far (f : Nat → Bool) (b m : Nat) (hJ : Jp f b) (hE : EndAt f b m) (h2 : b + 2 ≤ m) : txt (runsF f (m + 1)) = txt (runsF f b) ++ wn b ++ [45] ++ wn m ∧ Jp f (m + 1) := by
  obtain ⟨h1, hm, hall, hend⟩ := hE
  have hst : b = 0 ∨ f (b - 1) = false := by
    by_cases h0 : b = 0
    · exact .inl h0
    · right
      cases hv : f (b - 1)
      · rfl
      · exact absurd ⟨by omega, hall (b + 1) (by omega) (by omega)⟩ (hJ (by omega) (by omega) hv (hall b (Nat.le_refl _) h1)).2
  obtain ⟨d, rfl⟩ : ∃ d, m = b + d := ⟨m - b, by omega⟩
  rw [runs_stretch f b hst d hall, txt_app, txt_one]
  refine ⟨?_, fun hlt _ _ h => ?_⟩
  · unfold rt
    simp only
    rw [if_neg (by omega), if_neg (by omega)]
    simp
  · rw [hend hlt] at h; exact absurd h (by decide)
theorem items_near (f : Nat → Bool) (b m : Nat) (hJ : Jp f b) (hE : EndAt f b m) (h2 : m < b + 2) : txt (runsF f (b + 1)) = txt (runsF f b) ++ wn b ∧ Jp f (b + 1) := by
  obtain ⟨h1, hm, hall, hend⟩ := hE
  have hfb := hall b (Nat.le_refl _) h1
  by_cases hp : 0 < b ∧ f (b - 1) = true
  · obtain ⟨⟨R, hR⟩, hn⟩ := hJ (by omega) hp.1 hp.2 hfb
    rw [runs_on f b hp.1 hfb hp.2 R (b - 1) hR, hR, txt_app, txt_app, txt_one, txt_one]
    refine ⟨?_, fun hlt _ _ h => absurd ⟨hlt, h⟩ hn⟩
    unfold rt
    simp only
    rw [if_neg (by omega), if_pos (by omega)]
    simp
  · have hst : b = 0 ∨ f (b - 1) = false := by
      by_cases h0 : b = 0
      · exact .inl h0
      · right
        cases hv : f (b - 1)
        · rfl
        · exact absurd ⟨by omega, hv⟩ hp
    rw [runs_new f b hfb hst, txt_app, txt_one]
    refine ⟨by simp [rt], fun hlt _ _ h => ⟨⟨runsF f b, by simpa using runs_new f b hfb hst⟩, ?_⟩⟩
    rintro ⟨h3, h4⟩
    rcases (by omega : m = b ∨ m = b + 1) with rfl | rfl
    · rw [hend hlt] at h; exact absurd h (by decide)
    · rw [hend h3] at h4; exact absurd h4 (by decide)
theorem items_no (f : Nat → Bool) (b : Nat) (h : f b = false) : txt (runsF f (b + 1)) = txt (runsF f b) ∧ Jp f (b + 1) := by
  refine ⟨by rw [runs_no f b h], fun _ _ h1 _ => ?_⟩
  simp at h1
  rw [h] at h1; exact absurd h1 (by decide)
theorem bs_app (l m : List UInt8) : bs l ++ bs m = bs (l ++ m) := by
  apply ByteArray.ext
  rw [ByteArray.data_append]
  simp [bs]
theorem bsz (l : List UInt8) : (bs l).size = l.length := rfl
set_option maxHeartbeats 8000000 in
set_option maxRecDepth 100000 in
theorem items_any (f : Nat → Bool) (w : World) : Calls Tryd.prog 97 #[.agg (fl f)] w fun e w' => e = .returned (.string (bs (txt (runsF f 256)))) ∧ Below w.heap.size w w' := by
  have S0 := Lib.hid ((Sb.start w).alloc (.cells (fl f) 94))
  go_enter Tryd.func97, Tryd.ntmps97
  go_wp2
  go_loopw [3, 4] (fun t i wr => ∃ k : Nat, k ≤ 256 ∧ i = .int .i64 k ∧ t = .string (bs (txt (runsF f k))) ∧ Jp f k ∧ Sb w wr [(w.heap.size, .cells (fl f) 94)]) (fun _ i _ => 256 - (intOf i).toNat)
  case atStart => exact ⟨0, by omega, rfl, rfl, fun _ h => absurd h (by omega), S0.out⟩
  case round =>
    obtain ⟨k, hk, rfl, rfl, hJ, hS⟩ := hrel
    have HS := Lib.hid hS
    have HJ := Lib.hid hJ
    clear hS hJ
    by_cases hlt : k < 256
    · have hlt' : (k : Int) < 256 := by omega
      have hm : (k : Int) % 256 = k := by omega
      have c0 := HS.out.flag k hlt
      have hln := txt_len f k
      have hcl := cnt_le f k
      cases hf : f k
      · rw [hf] at c0
        have HN := Lib.hid (items_no f k hf)
        clear hf
        go_wp2
        go_roundw
        case rel => exact ⟨k + 1, by omega, by go_num, by rw [HN.out.1], HN.out.2, HS.out⟩
        case measure => simp [intOf]; omega
      · rw [hf] at c0
        have HF := Lib.hid hf
        clear hf
        obtain ⟨wo, rfl⟩ : ∃ wo : World, wo = wr := ⟨_, rfl⟩
        go_wp2
        go_loop [5] (fun t => ∃ m : Nat, k ≤ m ∧ m < 256 ∧ t = .int .i64 m ∧ Hid (∀ j, k ≤ j → j ≤ m → f j = true)) (fun t => 256 - (intOf t).toNat)
        case atStart => exact ⟨k, Nat.le_refl _, hlt, rfl, Lib.hid fun j h1 h2 => (show j = k by omega) ▸ HF.out⟩
        case round =>
          obtain ⟨m, hkm, hm256, rfl, hall⟩ := hrel
          by_cases hx : m + 1 < 256
          · have hx' : (m : Int) + 1 < 256 := by omega
            have c1 := HS.out.flag (m + 1) hx
            cases hf1 : f (m + 1)
            · rw [hf1] at c1
              have HE := Lib.hid (show EndAt f k m from ⟨hkm, hm256, hall.out, fun _ => hf1⟩)
              clear hf1 hall
              have hmm : (m : Int) % 256 = m := by omega
              have hbk := Lib.hid (byte_any (UInt8.ofNat k))
              have hbm := Lib.hid (byte_any (UInt8.ofNat m))
              rw [ofNat_toNat k hlt] at hbk
              rw [ofNat_toNat m hm256] at hbm
              have hwk : (bs (wr (UInt8.ofNat k))).size ≤ 2 := (wn_len k).2
              have hwm : (bs (wr (UInt8.ofNat m))).size ≤ 2 := (wn_len m).2
              have ho : (bs (txt (runsF f k))).size ≤ 512 := by rw [bsz]; omega
              by_cases hfar : k + 2 ≤ m
              · have HI := Lib.hid (items_far f k m HJ.out HE.out hfar)
                have hfar' : (2 : Int) ≤ (m : Int) - (k : Int) := by omega
                have heq := Lib.hid (show bs (txt (runsF f k)) ++ bs (wr (UInt8.ofNat k)) ++ bs [45] ++ bs (wr (UInt8.ofNat m)) = bs (txt (runsF f (m + 1))) by rw [bs_app, bs_app, bs_app, HI.out.1]; rfl)
                generalize bs (txt (runsF f k)) = o at *
                generalize bs (wr (UInt8.ofNat k)) = x at *
                generalize bs (wr (UInt8.ofNat m)) = y at *
                have z1 : ¬ 9223372036854775807 < o.size + x.size := by omega
                have z2 : ¬ 9223372036854775807 < (o ++ x).size + 1 := by simp; omega
                have z3 : ¬ 9223372036854775807 < (o ++ x ++ bs [45]).size + y.size := by simp [bsz]; omega
                go_wp2_with fail
                refine (hbk.out _).mono ?_
                rintro _ w3 ⟨rfl, hb⟩
                have HS3 := Lib.hid (HS.out.up hb)
                clear hb c0
                go_wp2_with fail
                refine (hbm.out _).mono ?_
                rintro _ w4 ⟨rfl, hb⟩
                have HS4 := Lib.hid (HS3.out.up hb)
                clear hb
                go_wp2
                go_roundw
                case rel => exact ⟨m + 1, by omega, by go_num, by rw [← heq.out], HI.out.2, HS4.out⟩
                case measure => simp [intOf]; omega
              · have HI := Lib.hid (items_near f k m HJ.out HE.out (by omega))
                have hfar' : ¬ (2 : Int) ≤ (m : Int) - (k : Int) := by omega
                have heq := Lib.hid (show bs (txt (runsF f k)) ++ bs (wr (UInt8.ofNat k)) = bs (txt (runsF f (k + 1))) by rw [bs_app, HI.out.1]; rfl)
                generalize bs (txt (runsF f k)) = o at *
                generalize bs (wr (UInt8.ofNat k)) = x at *
                have z1 : ¬ 9223372036854775807 < o.size + x.size := by omega
                go_wp2_with fail
                refine (hbk.out _).mono ?_
                rintro _ w3 ⟨rfl, hb⟩
                have HS3 := Lib.hid (HS.out.up hb)
                clear hb c0
                go_wp2
                go_roundw
                case rel => exact ⟨k + 1, by omega, by go_num, by rw [← heq.out], HI.out.2, HS3.out⟩
                case measure => simp [intOf]; omega
            · rw [hf1] at c1
              have HF1 := Lib.hid hf1
              clear hf1
              go_wp2
              exact ⟨⟨m + 1, by omega, by omega, by go_num, Lib.hid fun j h1 h2 => by
                by_cases he : j = m + 1
                · subst he; exact HF1.out
                · exact hall.out j h1 (by omega)⟩, by simp [intOf]; omega⟩
          · have hx' : ¬ (m : Int) + 1 < 256 := by omega
            have HE := Lib.hid (show EndAt f k m from ⟨hkm, hm256, hall.out, fun h => absurd h hx⟩)
            have hxd : decide ((m : Int) + 1 < 256) = false := by simpa using hx'
            clear hall
            have hmm : (m : Int) % 256 = m := by omega
            have hbk := Lib.hid (byte_any (UInt8.ofNat k))
            have hbm := Lib.hid (byte_any (UInt8.ofNat m))
            rw [ofNat_toNat k hlt] at hbk
            rw [ofNat_toNat m hm256] at hbm
            have hwk : (bs (wr (UInt8.ofNat k))).size ≤ 2 := (wn_len k).2
            have hwm : (bs (wr (UInt8.ofNat m))).size ≤ 2 := (wn_len m).2
            have ho : (bs (txt (runsF f k))).size ≤ 512 := by rw [bsz]; omega
            by_cases hfar : k + 2 ≤ m
            · have HI := Lib.hid (items_far f k m HJ.out HE.out hfar)
              have hfar' : (2 : Int) ≤ (m : Int) - (k : Int) := by omega
              have heq := Lib.hid (show bs (txt (runsF f k)) ++ bs (wr (UInt8.ofNat k)) ++ bs [45] ++ bs (wr (UInt8.ofNat m)) = bs (txt (runsF f (m + 1))) by rw [bs_app, bs_app, bs_app, HI.out.1]; rfl)
              generalize bs (txt (runsF f k)) = o at *
              generalize bs (wr (UInt8.ofNat k)) = x at *
              generalize bs (wr (UInt8.ofNat m)) = y at *
              have z1 : ¬ 9223372036854775807 < o.size + x.size := by omega
              have z2 : ¬ 9223372036854775807 < (o ++ x).size + 1 := by simp; omega
              have z3 : ¬ 9223372036854775807 < (o ++ x ++ bs [45]).size + y.size := by simp [bsz]; omega
              go_wp2_with fail
              refine (hbk.out _).mono ?_
              rintro _ w3 ⟨rfl, hb⟩
              have HS3 := Lib.hid (HS.out.up hb)
              clear hb c0
              go_wp2_with fail
              refine (hbm.out _).mono ?_
              rintro _ w4 ⟨rfl, hb⟩
              have HS4 := Lib.hid (HS3.out.up hb)
              clear hb
              go_wp2
              go_roundw
              case rel => exact ⟨m + 1, by omega, by go_num, by rw [← heq.out], HI.out.2, HS4.out⟩
              case measure => simp [intOf]; omega
            · have HI := Lib.hid (items_near f k m HJ.out HE.out (by omega))
              have hfar' : ¬ (2 : Int) ≤ (m : Int) - (k : Int) := by omega
              have heq := Lib.hid (show bs (txt (runsF f k)) ++ bs (wr (UInt8.ofNat k)) = bs (txt (runsF f (k + 1))) by rw [bs_app, HI.out.1]; rfl)
              generalize bs (txt (runsF f k)) = o at *
              generalize bs (wr (UInt8.ofNat k)) = x at *
              have z1 : ¬ 9223372036854775807 < o.size + x.size := by omega
              go_wp2_with fail
              refine (hbk.out _).mono ?_
              rintro _ w3 ⟨rfl, hb⟩
              have HS3 := Lib.hid (HS.out.up hb)
              clear hb c0
              go_wp2
              go_roundw
              case rel => exact ⟨k + 1, by omega, by go_num, by rw [← heq.out], HI.out.2, HS3.out⟩
              case measure => simp [intOf]; omega
    · obtain rfl : k = 256 := by omega
      go_wp2
      go_ret
      exact ⟨rfl, HS.out.1⟩
end Go.Proofs.YtmjojahkbjlcdaaDoor
end
