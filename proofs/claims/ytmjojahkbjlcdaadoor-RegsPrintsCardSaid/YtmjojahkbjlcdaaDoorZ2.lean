/- Texts of package regs, one behind the other. -/
import Derived.Test.YtmjojahkbjlcdaaDoorZ1
import Derived.Test.YtmjojahkbjlcdaaDoorX19
import Derived.Test.YtmjojahkbjlcdaaDoorX6
import Derived.Test.YtmjojahkbjlcdaaDoorX18
import Derived.Test.YtmjojahkbjlcdaaDoorX4
import Derived.Test.YtmjojahkbjlcdaaDoorX3
import Derived.WalkKit
import Derived.WalkLawsBesides
import Derived.WalkSpells
import Derived.Outline
import Derived.Lib.Walk
import Derived.Lib.Hide
import Derived.RegionTactic
import Derived.LoopTactic
import Derived.Below
import Derived.IntWalk
import Derived.Lib.Slices
import Derived.Lib.Strings
import Derived.Laws.ResultCell
import Derived.Lib.BufferRead
import Derived.Laws.IdiomStrings
import Derived.Laws.AppendOwn
import Derived.Deep.QuietTactic
import Derived.BigQuiet
import Derived.Deep.RegionHeld3
import Derived.RegionCalls
import Derived.Deep.RegionWith
namespace Go.Proofs.YtmjojahkbjlcdaaDoor
set_option linter.unusedSimpArgs false
set_option linter.unusedVariables false
set_option maxRecDepth 100000
open Go.RowKit
section
def EndAt (f : Nat → Bool) (b m : Nat) : Prop := b ≤ m ∧ m < 256 ∧ (∀ j, b ≤ j → j ≤ m → f j = true) ∧ (m + 1 < 256 → f (m + 1) = false)
def Jp (f : Nat → Bool) (b : Nat) : Prop := b < 256 → 0 < b → f (b - 1) = true → f b = true → (∃ R, runsF f b = R ++ [(b - 1, b - 1)]) ∧ ¬ (b + 1 < 256 ∧ f (b + 1) = true)
theorem runs_stretch (f : Nat → Bool) (b : Nat) (hb : b = 0 ∨ f (b - 1) = false) : ∀ d, (∀ j, b ≤ j → j ≤ b + d → f j = true) → runsF f (b + d + 1) = runsF f b ++ [(b, b + d)]
  | 0, h => runs_new f b (h b (Nat.le_refl _) (Nat.le_refl _)) hb
  | d + 1, h => by
    have ih := runs_stretch f b hb d (fun j h1 h2 => h j h1 (by omega))
    exact runs_on f (b + d + 1) (by omega) (h _ (by omega) (by omega)) (h _ (by omega) (by omega)) _ _ ih
theorem items_far (f : Nat → Bool) (b m : Nat) (hJ : Jp f b) (hE : EndAt f b m) (h2 : b + 2 ≤ m) : txt (runsF f (m + 1)) = txt (runsF f b) ++ wn b ++ [45] ++ wn m ∧ Jp f (m + 1) := by
  obtain ⟨h1, hm, hall, hend⟩ := hE
  have hst : b = 0 ∨ f (b - 1) = false := by
    by_cases h0 : b = 0
    · exact .inl h0
    · right
      cases hv : f (b - 1)
      · rfl
      · exact absurd ⟨by omega, hall (b + 1) (by omega) (by omega)⟩ (hJ (by omega) (by omega) hv (hall b (Nat.le_refl _) h1)).2
  obtain ⟨d, rfl⟩ : ∃ d, m = b + d := ⟨m - b, by omega⟩
  rw [runs_stretch f b hst d hall, txt_app, txt_one]
  refine ⟨?_, fun hlt _ _ h => ?_⟩
  · unfold rt
    simp only
    rw [if_neg (by omega), if_neg (by omega)]
    simp
  · rw [hend hlt] at h; exact absurd h (by decide)
theorem items_near (f : Nat → Bool) (b m : Nat) (hJ : Jp f b) (hE : EndAt f b m) (h2 : m < b + 2) : txt (runsF f (b + 1)) = txt (runsF f b) ++ wn b ∧ Jp f (b + 1) := by
  obtain ⟨h1, hm, hall, hend⟩ := hE
  have hfb := hall b (Nat.le_refl _) h1
  by_cases hp : 0 < b ∧ f (b - 1) = true
  · obtain ⟨⟨R, hR⟩, hn⟩ := hJ (by omega) hp.1 hp.2 hfb
    rw [runs_on f b hp.1 hfb hp.2 R (b - 1) hR, hR, txt_app, txt_app, txt_one, txt_one]
    refine ⟨?_, fun hlt _ _ h => absurd ⟨hlt, h⟩ hn⟩
    unfold rt
    simp only
    rw [if_neg (by omega), if_pos (by omega)]
    simp
  · have hst : b = 0 ∨ f (b - 1) = false := by
      by_cases h0 : b = 0
      · exact .inl h0
      · right
        cases hv : f (b - 1)
        · rfl
        · exact absurd ⟨by omega, hv⟩ hp
    rw [runs_new f b hfb hst, txt_app, txt_one]
    refine ⟨by simp [rt], fun hlt _ _ h => ⟨⟨runsF f b, by simpa using runs_new f b hfb hst⟩, ?_⟩⟩
    rintro ⟨h3, h4⟩
    rcases (by omega : m = b ∨ m = b + 1) with rfl | rfl
    · rw [hend hlt] at h; exact absurd h (by decide)
    · rw [hend h3] at h4; exact absurd h4 (by decide)
theorem items_no (f : Nat → Bool) (b : Nat) (h : f b = false) : txt (runsF f (b + 1)) = txt (runsF f b) ∧ Jp f (b + 1) := by
  refine ⟨by rw [runs_no f b h], fun _ _ h1 _ => ?_⟩
  simp at h1
  rw [h] at h1; exact absurd h1 (by decide)
theorem bs_app (l m : List UInt8) : bs l ++ bs m = bs (l ++ m) := by
  apply ByteArray.ext
  rw [ByteArray.data_append]
  simp [bs]
theorem bsz (l : List UInt8) : (bs l).size = l.length := rfl
set_option maxHeartbeats 8000000 in
set_option maxRecDepth 100000 in
theorem items_any (f : Nat → Bool) (w : World) : Calls Tryd.prog 97 #[.agg (fl f)] w fun e w' => e = .returned (.string (bs (txt (runsF f 256)))) ∧ Below w.heap.size w w' := by
  have S0 := Lib.hid ((Sb.start w).alloc (.cells (fl f) 94))
  go_enter Tryd.func97, Tryd.ntmps97
  go_wp2
  go_loopw [3, 4] (fun t i wr => ∃ k : Nat, k ≤ 256 ∧ i = .int .i64 k ∧ t = .string (bs (txt (runsF f k))) ∧ Jp f k ∧ Sb w wr [(w.heap.size, .cells (fl f) 94)]) (fun _ i _ => 256 - (intOf i).toNat)
  case atStart => exact ⟨0, by omega, rfl, rfl, fun _ h => absurd h (by omega), S0.out⟩
  case round =>
    obtain ⟨k, hk, rfl, rfl, hJ, hS⟩ := hrel
    have HS := Lib.hid hS
    have HJ := Lib.hid hJ
    clear hS hJ
    by_cases hlt : k < 256
    · have hlt' : (k : Int) < 256 := by omega
      have hm : (k : Int) % 256 = k := by omega
      have c0 := HS.out.flag k hlt
      have hln := txt_len f k
      have hcl := cnt_le f k
      cases hf : f k
      · rw [hf] at c0
        have HN := Lib.hid (items_no f k hf)
        clear hf
        go_wp2
        go_roundw
        case rel => exact ⟨k + 1, by omega, by go_num, by rw [HN.out.1], HN.out.2, HS.out⟩
        case measure => simp [intOf]; omega
      · rw [hf] at c0
        have HF := Lib.hid hf
        clear hf
        obtain ⟨wo, rfl⟩ : ∃ wo : World, wo = wr := ⟨_, rfl⟩
        go_wp2
        go_loop [5] (fun t => ∃ m : Nat, k ≤ m ∧ m < 256 ∧ t = .int .i64 m ∧ Hid (∀ j, k ≤ j → j ≤ m → f j = true)) (fun t => 256 - (intOf t).toNat)
        case atStart => exact ⟨k, Nat.le_refl _, hlt, rfl, Lib.hid fun j h1 h2 => (show j = k by omega) ▸ HF.out⟩
        case round =>
          obtain ⟨m, hkm, hm256, rfl, hall⟩ := hrel
          by_cases hx : m + 1 < 256
          · have hx' : (m : Int) + 1 < 256 := by omega
            have c1 := HS.out.flag (m + 1) hx
            cases hf1 : f (m + 1)
            · rw [hf1] at c1
              have HE := Lib.hid (show EndAt f k m from ⟨hkm, hm256, hall.out, fun _ => hf1⟩)
              clear hf1 hall
              have hmm : (m : Int) % 256 = m := by omega
              have hbk := Lib.hid (byte_any (UInt8.ofNat k))
              have hbm := Lib.hid (byte_any (UInt8.ofNat m))
              rw [ofNat_toNat k hlt] at hbk
              rw [ofNat_toNat m hm256] at hbm
              have hwk : (bs (wr (UInt8.ofNat k))).size ≤ 2 := (wn_len k).2
              have hwm : (bs (wr (UInt8.ofNat m))).size ≤ 2 := (wn_len m).2
              have ho : (bs (txt (runsF f k))).size ≤ 512 := by rw [bsz]; omega
              by_cases hfar : k + 2 ≤ m
              · have HI := Lib.hid (items_far f k m HJ.out HE.out hfar)
                have hfar' : (2 : Int) ≤ (m : Int) - (k : Int) := by omega
                have heq := Lib.hid (show bs (txt (runsF f k)) ++ bs (wr (UInt8.ofNat k)) ++ bs [45] ++ bs (wr (UInt8.ofNat m)) = bs (txt (runsF f (m + 1))) by rw [bs_app, bs_app, bs_app, HI.out.1]; rfl)
                generalize bs (txt (runsF f k)) = o at *
                generalize bs (wr (UInt8.ofNat k)) = x at *
                generalize bs (wr (UInt8.ofNat m)) = y at *
                have z1 : ¬ 9223372036854775807 < o.size + x.size := by omega
                have z2 : ¬ 9223372036854775807 < (o ++ x).size + 1 := by simp; omega
                have z3 : ¬ 9223372036854775807 < (o ++ x ++ bs [45]).size + y.size := by simp [bsz]; omega
                go_wp2_with fail
                refine (hbk.out _).mono ?_
                rintro _ w3 ⟨rfl, hb⟩
                have HS3 := Lib.hid (HS.out.up hb)
                clear hb c0
                go_wp2_with fail
                refine (hbm.out _).mono ?_
                rintro _ w4 ⟨rfl, hb⟩
                have HS4 := Lib.hid (HS3.out.up hb)
                clear hb
                go_wp2
                go_roundw
                case rel => exact ⟨m + 1, by omega, by go_num, by rw [← heq.out], HI.out.2, HS4.out⟩
                case measure => simp [intOf]; omega
              · have HI := Lib.hid (items_near f k m HJ.out HE.out (by omega))
                have hfar' : ¬ (2 : Int) ≤ (m : Int) - (k : Int) := by omega
                have heq := Lib.hid (show bs (txt (runsF f k)) ++ bs (wr (UInt8.ofNat k)) = bs (txt (runsF f (k + 1))) by rw [bs_app, HI.out.1]; rfl)
                generalize bs (txt (runsF f k)) = o at *
                generalize bs (wr (UInt8.ofNat k)) = x at *
                have z1 : ¬ 9223372036854775807 < o.size + x.size := by omega
                go_wp2_with fail
                refine (hbk.out _).mono ?_
                rintro _ w3 ⟨rfl, hb⟩
                have HS3 := Lib.hid (HS.out.up hb)
                clear hb c0
                go_wp2
                go_roundw
                case rel => exact ⟨k + 1, by omega, by go_num, by rw [← heq.out], HI.out.2, HS3.out⟩
                case measure => simp [intOf]; omega
            · rw [hf1] at c1
              have HF1 := Lib.hid hf1
              clear hf1
              go_wp2
              exact ⟨⟨m + 1, by omega, by omega, by go_num, Lib.hid fun j h1 h2 => by
                by_cases he : j = m + 1
                · subst he; exact HF1.out
                · exact hall.out j h1 (by omega)⟩, by simp [intOf]; omega⟩
          · have hx' : ¬ (m : Int) + 1 < 256 := by omega
            have HE := Lib.hid (show EndAt f k m from ⟨hkm, hm256, hall.out, fun h => absurd h hx⟩)
            have hxd : decide ((m : Int) + 1 < 256) = false := by simpa using hx'
            clear hall
            have hmm : (m : Int) % 256 = m := by omega
            have hbk := Lib.hid (byte_any (UInt8.ofNat k))
            have hbm := Lib.hid (byte_any (UInt8.ofNat m))
            rw [ofNat_toNat k hlt] at hbk
            rw [ofNat_toNat m hm256] at hbm
            have hwk : (bs (wr (UInt8.ofNat k))).size ≤ 2 := (wn_len k).2
            have hwm : (bs (wr (UInt8.ofNat m))).size ≤ 2 := (wn_len m).2
            have ho : (bs (txt (runsF f k))).size ≤ 512 := by rw [bsz]; omega
            by_cases hfar : k + 2 ≤ m
            · have HI := Lib.hid (items_far f k m HJ.out HE.out hfar)
              have hfar' : (2 : Int) ≤ (m : Int) - (k : Int) := by omega
              have heq := Lib.hid (show bs (txt (runsF f k)) ++ bs (wr (UInt8.ofNat k)) ++ bs [45] ++ bs (wr (UInt8.ofNat m)) = bs (txt (runsF f (m + 1))) by rw [bs_app, bs_app, bs_app, HI.out.1]; rfl)
              generalize bs (txt (runsF f k)) = o at *
              generalize bs (wr (UInt8.ofNat k)) = x at *
              generalize bs (wr (UInt8.ofNat m)) = y at *
              have z1 : ¬ 9223372036854775807 < o.size + x.size := by omega
              have z2 : ¬ 9223372036854775807 < (o ++ x).size + 1 := by simp; omega
              have z3 : ¬ 9223372036854775807 < (o ++ x ++ bs [45]).size + y.size := by simp [bsz]; omega
              go_wp2_with fail
              refine (hbk.out _).mono ?_
              rintro _ w3 ⟨rfl, hb⟩
              have HS3 := Lib.hid (HS.out.up hb)
              clear hb c0
              go_wp2_with fail
              refine (hbm.out _).mono ?_
              rintro _ w4 ⟨rfl, hb⟩
              have HS4 := Lib.hid (HS3.out.up hb)
              clear hb
              go_wp2
              go_roundw
              case rel => exact ⟨m + 1, by omega, by go_num, by rw [← heq.out], HI.out.2, HS4.out⟩
              case measure => simp [intOf]; omega
            · have HI := Lib.hid (items_near f k m HJ.out HE.out (by omega))
              have hfar' : ¬ (2 : Int) ≤ (m : Int) - (k : Int) := by omega
              have heq := Lib.hid (show bs (txt (runsF f k)) ++ bs (wr (UInt8.ofNat k)) = bs (txt (runsF f (k + 1))) by rw [bs_app, HI.out.1]; rfl)
              generalize bs (txt (runsF f k)) = o at *
              generalize bs (wr (UInt8.ofNat k)) = x at *
              have z1 : ¬ 9223372036854775807 < o.size + x.size := by omega
              go_wp2_with fail
              refine (hbk.out _).mono ?_
              rintro _ w3 ⟨rfl, hb⟩
              have HS3 := Lib.hid (HS.out.up hb)
              clear hb c0
              go_wp2
              go_roundw
              case rel => exact ⟨k + 1, by omega, by go_num, by rw [← heq.out], HI.out.2, HS3.out⟩
              case measure => simp [intOf]; omega
    · obtain rfl : k = 256 := by omega
      go_wp2
      go_ret
      exact ⟨rfl, HS.out.1⟩
end
section
set_option maxHeartbeats 2000000 in
theorem rcount_any (f : Nat → Bool) (w : World) :
    Calls Tryd.prog 77 #[.agg (fl f)] w fun e w' => e = .returned (.int .i64 (cntF f 256 : Nat)) ∧ Below w.heap.size w w' := by
  have S0 := Lib.hid ((Sb.start w).alloc (.cells (fl f) 94))
  go_enter Tryd.func77, Tryd.ntmps77
  go_wp2
  go_loopw [3, 4] (fun n i wr => ∃ k : Nat, k ≤ 256 ∧ i = .int .i64 k ∧ n = .int .i64 (cntF f k : Nat) ∧ Sb w wr [(w.heap.size, .cells (fl f) 94)]) (fun _ i _ => 256 - (intOf i).toNat)
  case atStart => exact ⟨0, by omega, rfl, rfl, S0.out⟩
  case round =>
    obtain ⟨k, hk, rfl, rfl, hS⟩ := hrel
    have HS := Lib.hid hS
    clear hS
    by_cases hlt : k < 256
    · have hlt' : (k : Int) < 256 := by omega
      have c0 := HS.out.flag k hlt
      have hc := cnt_le f k
      have hs : cntF f (k + 1) = cntF f k + (f k).toNat := rfl
      cases hf : f k
      · rw [hf] at c0 hs
        have hs' := Lib.hid hs
        clear hs hf
        go_wp2
        go_roundw
        case rel => exact ⟨k + 1, by omega, by go_num, by rw [hs'.out]; simp, HS.out⟩
        case measure => simp [intOf]; omega
      · rw [hf] at c0 hs
        have hs' := Lib.hid hs
        clear hs hf
        go_wp2
        go_roundw
        case rel => exact ⟨k + 1, by omega, by go_num, by rw [hs'.out]; simp, HS.out⟩
        case measure => simp [intOf]; omega
    · obtain rfl : k = 256 := by omega
      go_wp2
      go_ret
      exact ⟨rfl, HS.out.1⟩
end
section
theorem W_bit (f : Nat → Bool) (k : Nat) : (((W f (k / 64) / 2 ^ (k % 64) : Nat) : Int) % 2 == 1) = f k := by
  have h := W_test f (k / 64) (k % 64) (Nat.mod_lt _ (by omega))
  rw [Nat.div_add_mod] at h
  rw [← h, Nat.testBit_eq_decide_div_mod_eq, Bool.eq_iff_iff]
  clear h
  generalize W f (k / 64) / 2 ^ (k % 64) = y
  simp; omega
def lowF (f : Nat → Bool) (k j : Nat) : Bool := decide (j < k) && f j
theorem lowF_zero (f : Nat → Bool) : lowF f 0 = fun _ => false := by funext j; simp [lowF]
theorem lowF_set (f : Nat → Bool) (k : Nat) : (fl (lowF f k)).setIfInBounds k (.bool (f k)) = fl (lowF f (k + 1)) := by
  refine fl_set _ _ k (f k) fun j _ => ?_
  unfold lowF
  by_cases h : j = k
  · subst h; simp
  · by_cases h1 : j < k
    · simp [h, h1, show j < k + 1 by omega]
    · simp [h, h1, show ¬ j < k + 1 by omega]
theorem lowF_all (f : Nat → Bool) : fl (lowF f 256) = fl f := fl_congr fun j hj => by simp [lowF, hj]

set_option maxHeartbeats 4000000 in
set_option maxRecDepth 100000 in
theorem flags_any (f : Nat → Bool) (w : World) :
    Calls Tryd.prog 62 #[setV f] w fun e w' => e = .returned (.agg (fl f)) ∧ Below w.heap.size w w' := by
  have S0 := Lib.hid ((((Sb.start w).alloc (.cells (wc f) 24)).alloc (.cells (fl fun _ => false) 94)).alloc (.cells (fl fun _ => false) 94))
  have hz := zero27
  go_enter Tryd.func62, Tryd.ntmps62
  go_wp2
  go_loopw [4] (fun i wr => ∃ k : Nat, k ≤ 256 ∧ i = .int .i64 k ∧ Sb w wr [(w.heap.size + 1 + 1, .cells (fl (lowF f k)) 94), (w.heap.size + 1, .cells (fl fun _ => false) 94), (w.heap.size, .cells (wc f) 24)]) (fun i _ => 256 - (intOf i).toNat)
  case atStart => exact ⟨0, by omega, rfl, by simpa [wc, lowF_zero] using S0.out⟩
  case round =>
    obtain ⟨k, hk, rfl, hS⟩ := hrel
    have HS := Lib.hid hS
    clear hS
    by_cases hlt : k < 256
    · have hlt' : (k : Int) < 256 := by omega
      have c0 := HS.out.tl.tl.word (k / 64) (by omega)
      have hx := W_lt f (k / 64)
      have hW := W_bit f k
      have hset := Lib.hid (lowF_set f k)
      generalize hq : W f (k / 64) = x at c0 hx hW
      clear hq
      generalize f k = v at hW hset
      have c1 := HS.out.flag k hlt
      have f1 := HS.out.free k
      have z1 := HS.out.lt
      obtain ⟨wo, rfl⟩ : ∃ wo : World, wo = wr := ⟨_, rfl⟩
      have hm : k % 64 < 64 := Nat.mod_lt _ (by omega)
      go_wp2
      go_loop [5, 6, 21, 22] (fun t i _ _ => ∃ j : Nat, j ≤ k % 64 ∧ i = .int .i64 j ∧ t = .int .u64 (x / 2 ^ j : Nat)) (fun _ i _ _ => k % 64 - (intOf i).toNat)
      case atStart => exact ⟨0, by omega, rfl, by simp⟩
      case round =>
        obtain ⟨j, hj, rfl, rfl⟩ := hrel
        by_cases hlj : j < k % 64
        · have hl : (j : Int) < (k : Int) % 64 := by omega
          have hd : IntKind.u64.wrap (((x / 2 ^ j : Nat) : Int) / 2) = ((x / 2 ^ (j + 1) : Nat) : Int) := by
            rw [Nat.pow_succ, ← Nat.div_div_eq_div_mul, IntKind.wrap_u64]
            have : x / 2 ^ j ≤ x := Nat.div_le_self ..
            generalize x / 2 ^ j = y at this ⊢
            omega
          generalize x / 2 ^ j = y at hd
          generalize hy : x / 2 ^ (j + 1) = y' at hd
          have hy' := Lib.hid hy
          clear hy
          go_wp2
          exact ⟨⟨j + 1, by omega, by go_num, by rw [hy'.out]⟩, by simp [intOf]; omega⟩
        · obtain rfl : j = k % 64 := by omega
          generalize x / 2 ^ (k % 64) = y at hW
          go_wp2
          go_roundw
          case rel => exact ⟨k + 1, by omega, by go_num, by rw [← hset.out]; exact HS.out.set _ (by simp <;> omega)⟩
          case measure => simp [intOf]; omega
    · obtain rfl : k = 256 := by omega
      clear hlt hk
      rw [lowF_all] at HS
      have h2 := Lib.hid HS.out.heap
      have h1 := Lib.hid HS.out.tl.heap
      go_wp2_with (first | (refine wpList_load_row rfl 94 (.tmp 3) rfl (w.heap.size + 1 + 1) rfl 94 (fl f) (0, 0) _ h2.out Tryd.underlying94 rfl (fsize27 f) ?_) | (refine wpList_store_row rfl 94 (.tmp 2) (.tmp 28) rfl (w.heap.size + 1) (fl f) rfl rfl 94 _ h1.out (fsize27 f) (by rw [fl_size, fl_size]) (fl_one f) ?_))
      have hE := (HS.out.sub (M := [(w.heap.size + 1, .cells (fl fun _ => false) 94), (w.heap.size, .cells (wc f) 24)]) (by simp)).setRow (cs' := fl f) (by simp)
      refine bodyPost_ret (v := .agg (fl f)) (results_cell_row rfl _ _ (w.heap.size + 1) 94 (fl f) (0, 0) _ rfl hE.heap Tryd.underlying94 rfl (fsize27 f)) rfl ⟨rfl, hE.1⟩
end
section
theorem info5 : (Tryd.prog.info? 5).map (fun i => (i.zero, i.size, i.bytes)) = some (some (.int .u8 0), 1, 1) := by kernel_rfl
def OwnB (w0 : World) (l : List UInt8) (v : Value) (w : World) : Prop := w.ownsRow (w0.heap.size + 1) 5 1 v l.length (Lib.byteCells l)
theorem OwnB.conv {w0 w : World} {l : List UInt8} {v : Value} (h : OwnB w0 l v w) : (convert 56 9 v).run Tryd.prog w = .ok (.string (bs l)) w := by
  rcases h.2 with ⟨h1, h2⟩ | ⟨g, cap, cur, h1, _, h3, _, _, _, h4⟩
  · have : l = [] := List.eq_nil_of_length_eq_zero h2
    subst this; subst h1
    exact Lib.run_convert_nil_bytes w 56 9 5 0 Tryd.underlying56 Tryd.underlying5 Tryd.underlying9
  · subst h1
    exact run_convert_bytes_back w 56 9 5 ⟨g, 0, none⟩ cap l Tryd.underlying56 Tryd.underlying5 Tryd.underlying9 (Lib.bytes_of_row h3 (by simpa using h4))
set_option maxHeartbeats 4000000 in
theorem rmembers_any (f : Nat → Bool) (w : World) :
    Calls Tryd.prog 79 #[.agg (fl f)] w fun e w' => e = .returned (.string (bs (mem f 256))) ∧ Below w.heap.size w w' := by
  obtain ⟨i0, hi, hz0, hz1, hz2⟩ := info_parts info5
  have S0 := Lib.hid ((Sb.start w).alloc (.cells (fl f) 94))
  obtain ⟨G, hG⟩ : ∃ G, mem f 256 = G := ⟨_, rfl⟩
  rw [hG]
  have hG' := Lib.hid hG
  clear hG
  go_enter Tryd.func79, Tryd.ntmps79
  go_wp2
  go_loopw [3, 4] (fun v i wr => ∃ k : Nat, k ≤ 256 ∧ i = .int .i64 k ∧ Sb w wr [(w.heap.size, .cells (fl f) 94)] ∧ OwnB w (mem f k) v wr) (fun _ i _ => 256 - (intOf i).toNat)
  case atStart => exact ⟨0, by omega, rfl, S0.out, World.ownsRow_nil _ _ _ _⟩
  case round =>
    obtain ⟨k, hk, rfl, hS, hO⟩ := hrel
    have HS := Lib.hid hS
    have HO := Lib.hid hO
    clear hS hO
    by_cases hlt : k < 256
    · have hlt' : (k : Int) < 256 := by omega
      have hm : (k : Int) % 256 = k := by omega
      have c0 := HS.out.flag k hlt
      have hs : mem f (k + 1) = if f k then mem f k ++ [UInt8.ofNat k] else mem f k := rfl
      have hl : (mem f k).length ≤ 256 := by rw [mem_len]; have := cnt_le f k; omega
      generalize mem f k = l at *
      cases hf : f k
      · rw [hf] at c0 hs
        have hs' := Lib.hid hs
        clear hs hf
        go_wp2
        go_roundw
        case rel => exact ⟨k + 1, by omega, by go_num, HS.out, by rw [hs'.out]; exact HO.out⟩
        case measure => simp [intOf]; omega
      · rw [hf] at c0 hs
        have hs' := Lib.hid hs
        clear hs hf
        go_wp2_with (at_builtin; refine wpList_append_own _ rfl (.tmp 12) (.tmp 15) 56 rfl (w.heap.size + 1) 5 i0 (.int .u8 0) 1 1 Tryd.underlying56 hi hz0 hz1 hz2 rfl (by decide) u3 l.length (Lib.byteCells l) rfl ?c0 ⟨wr.heap.size, 0, none⟩ 1 1 [.int .u8 (k : Int)] rfl rfl ?c1 ?c2 ?c3 ?c4 ?c5 ?_)
        case c0 => exact World.ownsRow.alloc HO.out _
        case c2 => first | rfl | (intro u hu; simp at hu; subst hu; rfl)
        case c3 => unfold maxLen; omega
        case c4 => omega
        case c5 => have := HS.out.lt; simp; omega
        intro v' w7 hown7 hgrow7 _
        have HS7 := Lib.hid ((HS.out.up ((Below.refl _ _).alloc (Nat.le_refl _) _)).grown hgrow7 (fun g hg => by have := (World.ownsRow.lt HO.out g hg).1; exact ⟨by omega, by simp; omega⟩))
        rw [← byteCells_snoc l k hlt] at hown7
        have HO7 := Lib.hid hown7
        clear hown7 hgrow7
        go_wp2
        go_roundw
        case rel => exact ⟨k + 1, by omega, by go_num, HS7.out, by unfold OwnB; rw [hs'.out]; simpa using HO7.out⟩
        case measure => simp [intOf]; omega
    · obtain rfl : k = 256 := by omega
      rw [hG'.out] at HO
      have hcv := HO.out.conv
      go_wp2
      go_ret
      exact ⟨rfl, HS.out.1⟩
end
section
theorem noF_zero (f : Nat → Bool) : (fun j => decide (j < 0) && !f j) = fun _ => false := by funext j; simp
def lowN (f : Nat → Bool) (k j : Nat) : Bool := decide (j < k) && !f j
theorem lowN_zero (f : Nat → Bool) : lowN f 0 = fun _ => false := by funext j; simp [lowN]
theorem lowN_set (f : Nat → Bool) (k : Nat) : (fl (lowN f k)).setIfInBounds k (.bool (!f k)) = fl (lowN f (k + 1)) := by
  refine fl_set _ _ k (!f k) fun j _ => ?_
  unfold lowN
  by_cases h : j = k
  · subst h; simp
  · by_cases h1 : j < k
    · simp [h, h1, show j < k + 1 by omega]
    · simp [h, h1, show ¬ j < k + 1 by omega]
theorem lowN_all (f : Nat → Bool) : fl (lowN f 256) = fl (fun b => !f b) := fl_congr fun j hj => by simp [lowN, hj]
set_option maxHeartbeats 8000000 in
set_option maxRecDepth 100000 in
theorem rprint_any (f : Nat → Bool) (w : World) : Calls Tryd.prog 78 #[.agg (fl f)] w fun e w' => e = .returned (.string (bs (pr f))) ∧ Below w.heap.size w w' := by
  have S0 := Lib.hid ((Sb.start w).alloc (.cells (fl f) 94))
  have hz := zero27
  have hcn := Lib.hid (rcount_any f)
  have hit := Lib.hid (items_any f)
  have hin := Lib.hid (items_any (fun b => !f b))
  have hl1 := txt_len f 256
  have hl2 := txt_len (fun b => !f b) 256
  have hl3 := cnt_not f 256
  have h0 := Lib.hid S0.out.heap
  by_cases hc : 128 < cntF f 256
  · have heq := Lib.hid (show bs [91, 94] ++ bs (txt (runsF (fun b => !f b) 256)) ++ bs [93] = bs (pr f) by unfold pr; rw [if_pos hc, bs_app, bs_app])
    have hsz : (bs (txt (runsF (fun b => !f b) 256))).size ≤ 512 := by rw [bsz]; omega
    have hcd : ¬ cntF f 256 ≤ 128 := by omega
    clear hl1 hl2 hl3 hc hit
    generalize cntF f 256 = n at *
    generalize bs (pr f) = P at *
    generalize bs (txt (runsF (fun b => !f b) 256)) = x at *
    have z1 : ¬ 9223372036854775807 < 2 + x.size := by omega
    have z2 : ¬ 9223372036854775807 < (bs [91, 94] ++ x).size + 1 := by simp [bsz]; omega
    go_enter Tryd.func78, Tryd.ntmps78
    go_wp2_with (refine wpList_load_row rfl 94 (.tmp 1) rfl w.heap.size rfl 94 (fl f) (0, 0) _ h0.out Tryd.underlying94 rfl (fsize27 f) ?_)
    refine (hcn.out _).mono ?_
    rintro _ w1 ⟨rfl, hb⟩
    have S1 := Lib.hid (S0.out.up hb)
    clear hb hcn h0
    have S2 := Lib.hid (S1.out.alloc (.cells (fl fun _ => false) 94))
    have hz1 : w.heap.size < w1.heap.size := S1.out.lt
    go_wp2_with fail
    go_loopw [4] (fun i wr => ∃ k : Nat, k ≤ 256 ∧ i = .int .i64 k ∧ Sb w wr [(w1.heap.size, .cells (fl (lowN f k)) 94), (w.heap.size, .cells (fl f) 94)]) (fun i _ => 256 - (intOf i).toNat)
    case atStart => exact ⟨0, by omega, rfl, by rw [lowN_zero]; exact S2.out⟩
    case round =>
      obtain ⟨k, hk, rfl, hS⟩ := hrel
      have HS := Lib.hid hS
      clear hS
      by_cases hlt : k < 256
      · have hlt' : (k : Int) < 256 := by omega
        have c0 := HS.out.tl.flag k hlt
        have c1 := HS.out.flag k hlt
        have f1 := HS.out.free k
        have z9 := HS.out.lt
        have hset := Lib.hid (lowN_set f k)
        generalize f k = v at c0 hset
        go_wp2
        go_roundw
        case rel => exact ⟨k + 1, by omega, by go_num, by rw [← hset.out]; exact HS.out.set _ (by simp; omega)⟩
        case measure => simp [intOf]; omega
      · obtain rfl : k = 256 := by omega
        rw [lowN_all] at HS
        have h0 := Lib.hid HS.out.heap
        clear hlt hk
        go_wp2_with (refine wpList_load_row rfl 94 (.tmp 3) rfl w1.heap.size rfl 94 (fl fun b => !f b) (0, 0) _ h0.out Tryd.underlying94 rfl (fsize27 _) ?_)
        refine (hin.out _).mono ?_
        rintro _ w4 ⟨rfl, hb⟩
        have HE := Lib.hid (HS.out.up hb).1
        clear hb h0
        go_wp2
        go_ret
        exact ⟨by rw [← heq.out]; rfl, HE.out⟩
  · have heq := Lib.hid (show bs [91] ++ bs (txt (runsF f 256)) ++ bs [93] = bs (pr f) by unfold pr; rw [if_neg hc, bs_app, bs_app])
    have hsz : (bs (txt (runsF f 256))).size ≤ 512 := by rw [bsz]; omega
    have hcd : cntF f 256 ≤ 128 := by omega
    clear hl1 hl2 hl3 hc hin
    generalize cntF f 256 = n at *
    generalize bs (pr f) = P at *
    generalize bs (txt (runsF f 256)) = x at *
    have z1 : ¬ 9223372036854775807 < 1 + x.size := by omega
    have z2 : ¬ 9223372036854775807 < (bs [91] ++ x).size + 1 := by simp [bsz]; omega
    go_enter Tryd.func78, Tryd.ntmps78
    go_wp2_with (refine wpList_load_row rfl 94 (.tmp 1) rfl w.heap.size rfl 94 (fl f) (0, 0) _ h0.out Tryd.underlying94 rfl (fsize27 f) ?_)
    refine (hcn.out _).mono ?_
    rintro _ w1 ⟨rfl, hb⟩
    have S1 := Lib.hid (S0.out.up hb)
    have h1 := Lib.hid S1.out.heap
    clear hb hcn h0
    go_wp2_with (refine wpList_load_row rfl 94 (.tmp 1) rfl w.heap.size rfl 94 (fl f) (0, 0) _ h1.out Tryd.underlying94 rfl (fsize27 f) ?_)
    refine (hit.out _).mono ?_
    rintro _ w4 ⟨rfl, hb⟩
    have HE := Lib.hid (S1.out.up hb).1
    clear hb h1
    go_wp2
    go_ret
    exact ⟨by rw [← heq.out]; rfl, HE.out⟩
end
section
def zr4 (f : Nat → Bool) (i : Nat) : Array Value := C4 (mix (fun j => .int .u64 (W f j)) (fun _ => .int .u64 0) i)
theorem zr4_zero (f : Nat → Bool) : zr4 f 0 = #[.int .u64 0, .int .u64 0, .int .u64 0, .int .u64 0] := by simp [zr4, C4, mix]
theorem zr4_four (f : Nat → Bool) : zr4 f 4 = wc f := by simp [zr4, C4, mix, wc]
theorem zr4_set (f : Nat → Bool) (i : Nat) : (zr4 f i).setIfInBounds i (.int .u64 (W f i)) = zr4 f (i + 1) := by
  refine C4_set _ _ i _ fun j _ => ?_
  unfold mix
  by_cases e : j = i
  · subst e; simp
  · by_cases h1 : j < i
    · simp [h1, e, show j < i + 1 by omega]
    · simp [h1, e, show ¬ j < i + 1 by omega]
theorem zr4_get (f : Nat → Bool) (i : Nat) (h : i < 4) : (zr4 f i)[i]? = some (.int .u64 0) := by
  unfold zr4; rw [C4_get _ _ h]; simp [mix]
theorem wc_one (f : Nat → Bool) : (wc f).all (·.oneCell') = true := by
  unfold wc
  simp only [Array.all_eq_true]
  intro i hi
  have : i < 4 := hi
  rcases (by omega : i = 0 ∨ i = 1 ∨ i = 2 ∨ i = 3) with rfl | rfl | rfl | rfl <;> rfl
theorem half_step (y : Nat) : y = y / 2 * 2 + (decide (y % 2 = 1)).toNat := by
  by_cases hy : y % 2 = 1
  · rw [decide_eq_true hy]; simp; omega
  · rw [decide_eq_false hy]; simp; omega
theorem W_step (f : Nat → Bool) (i m : Nat) (hm : m < 64) : W f i / 2 ^ m = W f i / 2 ^ (m + 1) * 2 + (f (64 * i + m)).toNat := by
  have h := W_test f i m hm
  rw [Nat.testBit_eq_decide_div_mod_eq] at h
  rw [← h, Nat.pow_succ, ← Nat.div_div_eq_div_mul]
  exact half_step _
theorem dbl (x j : Nat) (v : Bool) (hx : x < 18446744073709551616) (hs : x / 2 ^ j = x / 2 ^ (j + 1) * 2 + v.toNat) : x / 2 ^ (j + 1) * 2 < 18446744073709551616 - v.toNat := by
  have h1 : x / 2 ^ j ≤ x := Nat.div_le_self ..
  generalize x / 2 ^ j = a at hs h1
  generalize x / 2 ^ (j + 1) = b at hs ⊢
  have : v.toNat ≤ 1 := by cases v <;> decide
  omega
theorem W_top (f : Nat → Bool) (i : Nat) : W f i / 2 ^ 64 = 0 := Nat.div_eq_of_lt (W_lt' f i)

theorem fin0 {y y' z : Nat} (h1 : z = y') (h2 : y' = y * 2 + false.toNat) : (y : Int) * 2 = (z : Int) := by subst h1; rw [h2]; simp
theorem fin1 {y y' z : Nat} (h1 : z = y') (h2 : y' = y * 2 + true.toNat) : (y : Int) * 2 + 1 = (z : Int) := by subst h1; rw [h2]; simp
theorem vint {k : IntKind} {a b : Int} (h : a = b) : Value.int k a = .int k b := by rw [h]
set_option maxHeartbeats 4000000 in
set_option maxRecDepth 100000 in
theorem rset_any (f : Nat → Bool) (w : World) :
    Calls Tryd.prog 86 #[.agg (fl f)] w fun e w' => e = .returned (setV f) ∧ Below w.heap.size w w' := by
  have S0 := Lib.hid ((((Sb.start w).alloc (.cells (fl f) 94)).alloc (.cells #[.int .u64 0, .int .u64 0, .int .u64 0, .int .u64 0] 24)).alloc (.cells #[.int .u64 0, .int .u64 0, .int .u64 0, .int .u64 0] 24))
  go_enter Tryd.func86, Tryd.ntmps86
  go_wp2
  go_loopw [4] (fun i wr => ∃ k : Nat, k ≤ 4 ∧ i = .int .i64 k ∧ Sb w wr [(w.heap.size + 1 + 1, .cells (zr4 f k) 24), (w.heap.size + 1, .cells #[.int .u64 0, .int .u64 0, .int .u64 0, .int .u64 0] 24), (w.heap.size, .cells (fl f) 94)]) (fun i _ => 4 - (intOf i).toNat)
  case atStart => exact ⟨0, by omega, rfl, by rw [zr4_zero]; simpa using S0.out⟩
  case round =>
    obtain ⟨i, hi, rfl, hS⟩ := hrel
    have HS := Lib.hid hS
    clear hS
    by_cases hlt : i < 4
    · have hlt' : (i : Int) < 4 := by omega
      have c1 := (HS.out.cell i).trans (zr4_get f i hlt)
      have f1 := HS.out.free i
      have z1 := HS.out.lt
      have hset := Lib.hid (zr4_set f i)
      have hst := Lib.hid (W_step f i)
      have htop := W_top f i
      have hx := Lib.hid (W_lt f i)
      generalize hxx : W f i = x at hset hst htop hx
      clear hxx
      obtain ⟨wo, rfl⟩ : ∃ wo : World, wo = wr := ⟨_, rfl⟩
      go_wp2
      go_loop [5, 6, 15, 16, 17, 18, 19, 20, 21, 22, 23, 24] (fun t c _ _ _ _ _ _ _ _ _ _ => ∃ m : Nat, m ≤ 64 ∧ c = .int .i64 ((m : Int) - 1) ∧ t = .int .u64 (x / 2 ^ m : Nat)) (fun _ c _ _ _ _ _ _ _ _ _ _ => (intOf c + 1).toNat)
      case atStart => exact ⟨64, by omega, rfl, by rw [htop]; rfl⟩
      case round =>
        obtain ⟨m, hm, rfl, rfl⟩ := hrel
        clear htop
        rcases Nat.eq_zero_or_pos m with h0 | h0
        · subst h0
          go_wp2
          go_roundw
          case rel => exact ⟨i + 1, by omega, by go_num, by rw [← hset.out]; simpa using HS.out.set (i := i) (.int .u64 x) (by simp <;> omega)⟩
          case measure => simp [intOf]; omega
        · obtain ⟨j, rfl⟩ : ∃ j, m = j + 1 := ⟨m - 1, by omega⟩
          have hj : j < 64 := by omega
          have hlt2 : i * 64 + j < 256 := by omega
          have c0 := HS.out.tl.tl.flag (i * 64 + j) hlt2
          have hs := hst.out j hj
          rw [show 64 * i + j = i * 64 + j by omega] at hs
          rw [show (((j + 1 : Nat) : Int) - 1) = (j : Int) by omega]
          generalize f (i * 64 + j) = v at c0 hs
          have hb1 := dbl x j v hx.out hs
          generalize x / 2 ^ (j + 1) = y at hs hb1
          generalize hq : x / 2 ^ j = y' at hs
          have hq' := Lib.hid hq
          clear hq
          cases v
          · have hs' := Lib.hid hs
            have hb3 : y * 2 < 18446744073709551616 := by simpa using hb1
            clear hs hb1
            go_wp2
            exact ⟨⟨j, Nat.le_of_lt hj, rfl, vint (fin0 hq'.out hs'.out)⟩, by simp [intOf]⟩
          · have hs' := Lib.hid hs
            have hb3 : y * 2 < 18446744073709551615 := by simpa using hb1
            clear hs hb1
            go_wp2
            exact ⟨⟨j, Nat.le_of_lt hj, rfl, vint (fin1 hq'.out hs'.out)⟩, by simp [intOf]⟩
    · obtain rfl : i = 4 := by omega
      clear hlt hi
      rw [zr4_four] at HS
      have c0 := HS.out.word 0 (by omega); have d0 := HS.out.tl.cell 0; have g0 := HS.out.tl.free 0
      have c1 := HS.out.word 1 (by omega); have d1 := HS.out.tl.cell 1; have g1 := HS.out.tl.free 1
      have c2 := HS.out.word 2 (by omega); have d2 := HS.out.tl.cell 2; have g2 := HS.out.tl.free 2
      have c3 := HS.out.word 3 (by omega); have d3 := HS.out.tl.cell 3; have g3 := HS.out.tl.free 3
      simp at d0 d1 d2 d3
      have z2 := HS.out.lt
      have z3 := HS.out.tl.lt
      have hE := Lib.hid ((((((HS.out.sub (M := [(w.heap.size + 1, .cells #[.int .u64 0, .int .u64 0, .int .u64 0, .int .u64 0] 24)]) (by simp)).set (i := 0) (.int .u64 (W f 0)) (by simp)).set (i := 1) (.int .u64 (W f 1)) (by simp)).set (i := 2) (.int .u64 (W f 2)) (by simp)).set (i := 3) (.int .u64 (W f 3)) (by simp)))
      go_wp2
      refine bodyPost_ret (v := setV f) (results_cell_row rfl _ _ (w.heap.size + 1) 24 (wc f) (0, 0) _ rfl hE.out.heap Tryd.underlying24 rfl (i24 f)) rfl ⟨rfl, hE.out.1⟩
end
section
/- The document's sign, dot and single. -/
theorem sign5_any (c : UInt8) (w : World) : Calls Tryd.prog 80 #[.int .u8 c.toNat] w fun e w' => e = .returned (.bool (sgs.contains c)) ∧ w = w' := by
  cases h : sgs.contains c with
  | true =>
    have hc : c = 46 ∨ c = 42 ∨ c = 43 ∨ c = 63 ∨ c = 124 ∨ c = 40 ∨ c = 41 ∨ c = 91 ∨ c = 93 ∨ c = 92 := by
      simpa only [sgs, List.contains_cons, List.contains_nil, Bool.or_false, Bool.or_eq_true, beq_iff_eq] using h
    clear h
    rcases hc with rfl | rfl | rfl | rfl | rfl | rfl | rfl | rfl | rfl | rfl
    all_goals
      go_enter Tryd.func80, Tryd.ntmps80
      go_wp2
      go_ret
      exact ⟨rfl, rfl⟩
  | false =>
    have ne : ∀ k : UInt8, sgs.contains k = true → c ≠ k := fun k hk e => by rw [e, hk] at h; cases h
    have e46 : ((c.toNat : Int) == 46) = false := neqU c 46 (by omega) (ne 46 (by decide))
    have e42 : ((c.toNat : Int) == 42) = false := neqU c 42 (by omega) (ne 42 (by decide))
    have e43 : ((c.toNat : Int) == 43) = false := neqU c 43 (by omega) (ne 43 (by decide))
    have e63 : ((c.toNat : Int) == 63) = false := neqU c 63 (by omega) (ne 63 (by decide))
    have e124 : ((c.toNat : Int) == 124) = false := neqU c 124 (by omega) (ne 124 (by decide))
    have e40 : ((c.toNat : Int) == 40) = false := neqU c 40 (by omega) (ne 40 (by decide))
    have e41 : ((c.toNat : Int) == 41) = false := neqU c 41 (by omega) (ne 41 (by decide))
    have e91 : ((c.toNat : Int) == 91) = false := neqU c 91 (by omega) (ne 91 (by decide))
    have e93 : ((c.toNat : Int) == 93) = false := neqU c 93 (by omega) (ne 93 (by decide))
    have e92 : ((c.toNat : Int) == 92) = false := neqU c 92 (by omega) (ne 92 (by decide))
    clear h ne
    go_enter Tryd.func80, Tryd.ntmps80
    go_wp2
    go_ret
    exact ⟨rfl, rfl⟩
set_option maxHeartbeats 4000000 in
set_option maxRecDepth 100000 in
theorem dot_any (w : World) : Calls Tryd.prog 76 #[] w fun e w' => e = .returned (vv (wf inlF)) ∧ Below w.heap.size w w' := by
  have S0 := Lib.hid ((((Sb.start w).alloc (.cells z4 24))).alloc (.cells (fl fun _ => false) 94))
  have hz := zero27
  have hset := Lib.hid fun w => rset_any inlF w
  go_enter Tryd.func76, Tryd.ntmps76
  go_wp2
  go_loopw [2] (fun i wr => ∃ k : Nat, k ≤ 256 ∧ i = .int .i64 k ∧ Hid (Sb w wr [(w.heap.size + 1, .cells (fl (lowF inlF k)) 94), (w.heap.size, .cells z4 24)])) (fun i _ => 256 - (intOf i).toNat)
  case atStart => exact ⟨0, by omega, rfl, by simpa [lowF_zero] using S0⟩
  case round =>
    obtain ⟨k, hk, rfl, HS⟩ := hrel
    clear S0
    by_cases hlt : k < 256
    · have hlt' : (k : Int) < 256 := by omega
      have hv : ((k : Int) != 10) = inlF k := by
        unfold inlF ofL
        rw [Bool.eq_iff_iff]
        simp
        omega
      have hls := Lib.hid (lowF_set inlF k)
      generalize inlF k = v at hv hls
      have c1 := HS.out.flag k hlt
      have f1 := HS.out.free k
      have z1 := HS.out.lt
      go_wp2_with fail
      go_roundw
      case rel => exact ⟨k + 1, by omega, by go_num, Lib.hid (by rw [← hls.out]; exact HS.out.set _ (by simp <;> omega))⟩
      case measure => simp [intOf]; omega
    · obtain rfl : k = 256 := by omega
      clear hlt hk
      rw [lowF_all] at HS
      have h2 := Lib.hid HS.out.heap
      go_wp2_with (refine wpList_load_row rfl 94 (.tmp 1) rfl (w.heap.size + 1) rfl 94 (fl inlF) (0, 0) _ h2.out Tryd.underlying94 rfl (fsize27 inlF) ?_)
      refine (hset.out _).mono ?_
      rintro _ w2 ⟨rfl, hb⟩
      have S2 := Lib.hid ((HS.out.up hb).sub (M := [(w.heap.size, .cells z4 24)]) (by simp))
      have h3 := Lib.hid S2.out.heap
      clear hb
      go_wp2_with (refine wpList_store_row rfl 24 (.tmp 0) (.tmp 12) rfl w.heap.size (vc (wf inlF)) rfl rfl 24 _ h3.out (i24v (wf inlF)) rfl (vc_one (wf inlF)) ?_)
      have hE := S2.out.setRow (cs' := vc (wf inlF)) (by simp)
      exact bodyPost_ret (v := vv (wf inlF)) (results_cell_row rfl _ _ w.heap.size 24 (vc (wf inlF)) (0, 0) _ rfl hE.heap Tryd.underlying24 rfl (i24v (wf inlF))) rfl ⟨rfl, hE.1⟩
theorem conv_one (y : World) (c : Nat) (hc : c < 256) : (convert 56 9 (.slice (some ⟨y.heap.size, 0, none⟩) 1 1)).run Tryd.prog (y.alloc (.cells #[.int .u8 c] 5)) = .ok (.string (bs [UInt8.ofNat c])) (y.alloc (.cells #[.int .u8 c] 5)) := by
  have hcc : (UInt8.ofNat c).toNat = c := ofNat_toNat c hc
  have h := run_convert_bytes_back (y.alloc (.cells #[.int .u8 c] 5)) 56 9 5 ⟨y.heap.size, 0, none⟩ 1 [UInt8.ofNat c] Tryd.underlying56 Tryd.underlying5 Tryd.underlying9 (Lib.bytes_of_row (heap_alloc_last y _) (by simp [Lib.byteCells, hcc]))
  exact h
end
section
/- The document's single. -/
theorem keepW {v0 v1 v2 v3 : Value} {o0 o1 o2 o3 : Nat} {b0 : Nat} {y w' w'' : World} (h : w'.cell? ⟨b0, o0, none⟩ = some v0 ∧ w'.cell? ⟨b0, o1, none⟩ = some v1 ∧ w'.cell? ⟨b0, o2, none⟩ = some v2 ∧ w'.cell? ⟨b0, o3, none⟩ = some v3 ∧ b0 < w'.heap.size ∧ Below y.heap.size y w') (hb : Below w'.heap.size w' w'') : w''.cell? ⟨b0, o0, none⟩ = some v0 ∧ w''.cell? ⟨b0, o1, none⟩ = some v1 ∧ w''.cell? ⟨b0, o2, none⟩ = some v2 ∧ w''.cell? ⟨b0, o3, none⟩ = some v3 ∧ b0 < w''.heap.size ∧ Below y.heap.size y w'' := by
  obtain ⟨h0, h1, h2, h3, z0, K⟩ := h
  exact ⟨(hb.cell (p := ⟨b0, o0, none⟩) z0).trans h0, (hb.cell (p := ⟨b0, o1, none⟩) z0).trans h1, (hb.cell (p := ⟨b0, o2, none⟩) z0).trans h2, (hb.cell (p := ⟨b0, o3, none⟩) z0).trans h3, Nat.lt_of_lt_of_le z0 hb.size, K.trans (hb.mono K.size)⟩
theorem keepW_k {v0 v1 v2 v3 : Value} {o0 o1 o2 o3 : Nat} {b0 : Nat} {y w' : World} (h : w'.cell? ⟨b0, o0, none⟩ = some v0 ∧ w'.cell? ⟨b0, o1, none⟩ = some v1 ∧ w'.cell? ⟨b0, o2, none⟩ = some v2 ∧ w'.cell? ⟨b0, o3, none⟩ = some v3 ∧ b0 < w'.heap.size ∧ Below y.heap.size y w') : Below y.heap.size y w' := h.2.2.2.2.2
set_option maxHeartbeats 4000000 in
set_option maxRecDepth 100000 in
theorem single_A5 (u o : Nat → Int) (f : Nat → Bool) (w : World) (HF : Hid (∀ w, Calls Tryd.prog 62 #[vv u] w fun e w' => e = .returned (.agg (fl f)) ∧ Below w.heap.size w w')) (HD : Hid (∀ w, Calls Tryd.prog 76 #[] w fun e w' => e = .returned (vv o) ∧ Below w.heap.size w w')) (hs : sameU u o = true) :
    Calls Tryd.prog 54 #[vv u] w fun e w' => e = .returned (.string (bs [46])) ∧ Below w.heap.size w w' := by
  have S0 := Lib.hid ((Sb.start w).alloc (.cells (vc u) 24))
  have hz := zero27
  have heq := eql24g u o
  rw [hs] at heq
  clear hs
  unfold vv at HF HD ⊢
  unfold vc at S0
  go_enter Tryd.func54, Tryd.ntmps54
  go_wp2_with fail
  refine (HF.out _).mono ?_
  rintro _ w1 ⟨rfl, hb⟩
  have S1 := Lib.hid ((S0.out.up hb).alloc (.cells (fl fun _ => false) 94))
  have h1 := Lib.hid S1.out.heap
  have S2 := Lib.hid (S1.out.setRow (cs' := fl f) (by intro c hc; simp at hc; rw [hc]; have := (S0.out.up hb).lt; simp; omega))
  clear hb S0
  go_wp2_with (refine wpList_store_row rfl 94 (.tmp 3) (.tmp 6) rfl w1.heap.size (fl f) rfl rfl 94 _ h1.out (fsize27 f) (by rw [fl_size, fl_size]) (fl_one f) ?_)
  go_upto_region 2 with fail
  refine at_world (fun y => Sb w y [(w1.heap.size, .cells (fl f) 94), (w.heap.size, .cells #[.int .u64 (u 0), .int .u64 (u 1), .int .u64 (u 2), .int .u64 (u 3)] 24)]) S2.out fun y hy => ?_
  have S3 := Lib.hid hy
  clear S1 S2 h1 hy
  generalize w1.heap.size = b2 at *
  have a0 : y.cell? ⟨w.heap.size, 0, none⟩ = some (.int .u64 (u 0)) := S3.out.tl.cell 0
  have a1 : y.cell? ⟨w.heap.size, 1, none⟩ = some (.int .u64 (u 1)) := S3.out.tl.cell 1
  have a2 : y.cell? ⟨w.heap.size, 2, none⟩ = some (.int .u64 (u 2)) := S3.out.tl.cell 2
  have a3 : y.cell? ⟨w.heap.size, 3, none⟩ = some (.int .u64 (u 3)) := S3.out.tl.cell 3
  have az : w.heap.size < y.heap.size := S3.out.tl.lt
  go_region_held3 (fun w' => w'.cell? ⟨w.heap.size, 0, none⟩ = some (.int .u64 (u 0)) ∧ w'.cell? ⟨w.heap.size, 1, none⟩ = some (.int .u64 (u 1)) ∧ w'.cell? ⟨w.heap.size, 2, none⟩ = some (.int .u64 (u 2)) ∧ w'.cell? ⟨w.heap.size, 3, none⟩ = some (.int .u64 (u 3)) ∧ w.heap.size < w'.heap.size ∧ Below y.heap.size y w')
    (first | assumption | exact ⟨a0, a1, a2, a3, az, below_drewN (Below.refl _ _) 1⟩ | exact keepW (by assumption) hb)
    (first | (go_at_call 76; refine (HD.out _).mono ?_; rintro _ wq ⟨rfl, hb⟩))
  rename_i hHeld
  have S4 := Lib.hid (S3.out.up (keepW_k hHeld))
  clear hHeld hb S3 a0 a1 a2 a3 az
  go_wp2_with fail
  go_ret
  exact ⟨rfl, S4.out.1⟩
set_option maxHeartbeats 4000000 in
set_option maxRecDepth 100000 in
theorem single_B5 (u o : Nat → Int) (f : Nat → Bool) (w : World) (HF : Hid (∀ w, Calls Tryd.prog 62 #[vv u] w fun e w' => e = .returned (.agg (fl f)) ∧ Below w.heap.size w w')) (HD : Hid (∀ w, Calls Tryd.prog 76 #[] w fun e w' => e = .returned (vv o) ∧ Below w.heap.size w w')) (hs : sameU u o = false) (n : Nat) (hn : ((n : Int) != 1) = true) (HC : Hid (∀ w, Calls Tryd.prog 77 #[.agg (fl f)] w fun e w' => e = .returned (.int .i64 n) ∧ Below w.heap.size w w')) (P : List UInt8) (HP : Hid (∀ w, Calls Tryd.prog 78 #[.agg (fl f)] w fun e w' => e = .returned (.string (bs P)) ∧ Below w.heap.size w w')) :
    Calls Tryd.prog 54 #[vv u] w fun e w' => e = .returned (.string (bs P)) ∧ Below w.heap.size w w' := by
  have S0 := Lib.hid ((Sb.start w).alloc (.cells (vc u) 24))
  have hz := zero27
  have heq := eql24g u o
  rw [hs] at heq
  clear hs
  unfold vv at HF HD ⊢
  unfold vc at S0
  go_enter Tryd.func54, Tryd.ntmps54
  go_wp2_with fail
  refine (HF.out _).mono ?_
  rintro _ w1 ⟨rfl, hb⟩
  have S1 := Lib.hid ((S0.out.up hb).alloc (.cells (fl fun _ => false) 94))
  have h1 := Lib.hid S1.out.heap
  have S2 := Lib.hid (S1.out.setRow (cs' := fl f) (by intro c hc; simp at hc; rw [hc]; have := (S0.out.up hb).lt; simp; omega))
  clear hb S0
  go_wp2_with (refine wpList_store_row rfl 94 (.tmp 3) (.tmp 6) rfl w1.heap.size (fl f) rfl rfl 94 _ h1.out (fsize27 f) (by rw [fl_size, fl_size]) (fl_one f) ?_)
  go_upto_region 2 with fail
  refine at_world (fun y => Sb w y [(w1.heap.size, .cells (fl f) 94), (w.heap.size, .cells #[.int .u64 (u 0), .int .u64 (u 1), .int .u64 (u 2), .int .u64 (u 3)] 24)]) S2.out fun y hy => ?_
  have S3 := Lib.hid hy
  clear S1 S2 h1 hy
  generalize w1.heap.size = b2 at *
  have a0 : y.cell? ⟨w.heap.size, 0, none⟩ = some (.int .u64 (u 0)) := S3.out.tl.cell 0
  have a1 : y.cell? ⟨w.heap.size, 1, none⟩ = some (.int .u64 (u 1)) := S3.out.tl.cell 1
  have a2 : y.cell? ⟨w.heap.size, 2, none⟩ = some (.int .u64 (u 2)) := S3.out.tl.cell 2
  have a3 : y.cell? ⟨w.heap.size, 3, none⟩ = some (.int .u64 (u 3)) := S3.out.tl.cell 3
  have az : w.heap.size < y.heap.size := S3.out.tl.lt
  go_region_held3 (fun w' => w'.cell? ⟨w.heap.size, 0, none⟩ = some (.int .u64 (u 0)) ∧ w'.cell? ⟨w.heap.size, 1, none⟩ = some (.int .u64 (u 1)) ∧ w'.cell? ⟨w.heap.size, 2, none⟩ = some (.int .u64 (u 2)) ∧ w'.cell? ⟨w.heap.size, 3, none⟩ = some (.int .u64 (u 3)) ∧ w.heap.size < w'.heap.size ∧ Below y.heap.size y w')
    (first | assumption | exact ⟨a0, a1, a2, a3, az, below_drewN (Below.refl _ _) 1⟩ | exact keepW (by assumption) hb)
    (first | (go_at_call 76; refine (HD.out _).mono ?_; rintro _ wq ⟨rfl, hb⟩))
  rename_i hHeld
  have S4 := Lib.hid (S3.out.up (keepW_k hHeld))
  clear hHeld hb S3 a0 a1 a2 a3 az
  have h4 := Lib.hid S4.out.heap
  go_wp2_with (refine wpList_load_row rfl 94 (.tmp 3) rfl b2 rfl 94 (fl f) (0, 0) _ h4.out Tryd.underlying94 rfl (fsize27 f) ?_)
  refine (HC.out _).mono ?_
  rintro _ w5 ⟨rfl, hb⟩
  have S5 := Lib.hid (S4.out.up hb)
  clear hb S4 h4
  have h5 := Lib.hid S5.out.heap
  go_wp2_with (refine wpList_load_row rfl 94 (.tmp 3) rfl b2 rfl 94 (fl f) (0, 0) _ h5.out Tryd.underlying94 rfl (fsize27 f) ?_)
  refine (HP.out _).mono ?_
  rintro _ w6 ⟨rfl, hb⟩
  have S6 := Lib.hid (S5.out.up hb)
  clear hb S5 h5
  go_wp2_with fail
  go_ret
  exact ⟨rfl, S6.out.1⟩
set_option maxHeartbeats 4000000 in
set_option maxRecDepth 100000 in
theorem single_L10 (u o : Nat → Int) (f : Nat → Bool) (w : World) (HF : Hid (∀ w, Calls Tryd.prog 62 #[vv u] w fun e w' => e = .returned (.agg (fl f)) ∧ Below w.heap.size w w')) (HD : Hid (∀ w, Calls Tryd.prog 76 #[] w fun e w' => e = .returned (vv o) ∧ Below w.heap.size w w')) (hs : sameU u o = false) (c : UInt8) (e : ((c.toNat : Int) == 10) = true) (HC : Hid (∀ w, Calls Tryd.prog 77 #[.agg (fl f)] w fun e w' => e = .returned (.int .i64 1) ∧ Below w.heap.size w w')) (HM : Hid (∀ w, Calls Tryd.prog 79 #[.agg (fl f)] w fun e w' => e = .returned (.string ⟨#[c]⟩) ∧ Below w.heap.size w w')) :
    Calls Tryd.prog 54 #[vv u] w fun e w' => e = .returned (.string (bs [92, 110])) ∧ Below w.heap.size w w' := by
  have S0 := Lib.hid ((Sb.start w).alloc (.cells (vc u) 24))
  have hz := zero27
  have heq := eql24g u o
  rw [hs] at heq
  clear hs
  unfold vv at HF HD ⊢
  unfold vc at S0
  go_enter Tryd.func54, Tryd.ntmps54
  go_wp2_with fail
  refine (HF.out _).mono ?_
  rintro _ w1 ⟨rfl, hb⟩
  have S1 := Lib.hid ((S0.out.up hb).alloc (.cells (fl fun _ => false) 94))
  have h1 := Lib.hid S1.out.heap
  have S2 := Lib.hid (S1.out.setRow (cs' := fl f) (by intro c hc; simp at hc; rw [hc]; have := (S0.out.up hb).lt; simp; omega))
  clear hb S0
  go_wp2_with (refine wpList_store_row rfl 94 (.tmp 3) (.tmp 6) rfl w1.heap.size (fl f) rfl rfl 94 _ h1.out (fsize27 f) (by rw [fl_size, fl_size]) (fl_one f) ?_)
  go_upto_region 2 with fail
  refine at_world (fun y => Sb w y [(w1.heap.size, .cells (fl f) 94), (w.heap.size, .cells #[.int .u64 (u 0), .int .u64 (u 1), .int .u64 (u 2), .int .u64 (u 3)] 24)]) S2.out fun y hy => ?_
  have S3 := Lib.hid hy
  clear S1 S2 h1 hy
  generalize w1.heap.size = b2 at *
  have a0 : y.cell? ⟨w.heap.size, 0, none⟩ = some (.int .u64 (u 0)) := S3.out.tl.cell 0
  have a1 : y.cell? ⟨w.heap.size, 1, none⟩ = some (.int .u64 (u 1)) := S3.out.tl.cell 1
  have a2 : y.cell? ⟨w.heap.size, 2, none⟩ = some (.int .u64 (u 2)) := S3.out.tl.cell 2
  have a3 : y.cell? ⟨w.heap.size, 3, none⟩ = some (.int .u64 (u 3)) := S3.out.tl.cell 3
  have az : w.heap.size < y.heap.size := S3.out.tl.lt
  go_region_held3 (fun w' => w'.cell? ⟨w.heap.size, 0, none⟩ = some (.int .u64 (u 0)) ∧ w'.cell? ⟨w.heap.size, 1, none⟩ = some (.int .u64 (u 1)) ∧ w'.cell? ⟨w.heap.size, 2, none⟩ = some (.int .u64 (u 2)) ∧ w'.cell? ⟨w.heap.size, 3, none⟩ = some (.int .u64 (u 3)) ∧ w.heap.size < w'.heap.size ∧ Below y.heap.size y w')
    (first | assumption | exact ⟨a0, a1, a2, a3, az, below_drewN (Below.refl _ _) 1⟩ | exact keepW (by assumption) hb)
    (first | (go_at_call 76; refine (HD.out _).mono ?_; rintro _ wq ⟨rfl, hb⟩))
  rename_i hHeld
  have S4 := Lib.hid (S3.out.up (keepW_k hHeld))
  clear hHeld hb S3 a0 a1 a2 a3 az
  have h4 := Lib.hid S4.out.heap
  go_wp2_with (refine wpList_load_row rfl 94 (.tmp 3) rfl b2 rfl 94 (fl f) (0, 0) _ h4.out Tryd.underlying94 rfl (fsize27 f) ?_)
  refine (HC.out _).mono ?_
  rintro _ w5 ⟨rfl, hb⟩
  have S5 := Lib.hid (S4.out.up hb)
  clear hb S4 h4
  have h5 := Lib.hid S5.out.heap
  go_wp2_with (refine wpList_load_row rfl 94 (.tmp 3) rfl b2 rfl 94 (fl f) (0, 0) _ h5.out Tryd.underlying94 rfl (fsize27 f) ?_)
  refine (HM.out _).mono ?_
  rintro _ w6 ⟨rfl, hb⟩
  have S6 := Lib.hid (S5.out.up hb)
  clear hb S5 h5
  have hix : ∀ h, (⟨#[c]⟩ : ByteArray)[0]'h = c := fun _ => rfl
  go_wp2_with fail
  go_ret
  exact ⟨rfl, S6.out.1⟩
set_option maxHeartbeats 4000000 in
set_option maxRecDepth 100000 in
theorem single_L9 (u o : Nat → Int) (f : Nat → Bool) (w : World) (HF : Hid (∀ w, Calls Tryd.prog 62 #[vv u] w fun e w' => e = .returned (.agg (fl f)) ∧ Below w.heap.size w w')) (HD : Hid (∀ w, Calls Tryd.prog 76 #[] w fun e w' => e = .returned (vv o) ∧ Below w.heap.size w w')) (hs : sameU u o = false) (c : UInt8) (e10 : ((c.toNat : Int) == 10) = false) (e : ((c.toNat : Int) == 9) = true) (HC : Hid (∀ w, Calls Tryd.prog 77 #[.agg (fl f)] w fun e w' => e = .returned (.int .i64 1) ∧ Below w.heap.size w w')) (HM : Hid (∀ w, Calls Tryd.prog 79 #[.agg (fl f)] w fun e w' => e = .returned (.string ⟨#[c]⟩) ∧ Below w.heap.size w w')) :
    Calls Tryd.prog 54 #[vv u] w fun e w' => e = .returned (.string (bs [92, 116])) ∧ Below w.heap.size w w' := by
  have S0 := Lib.hid ((Sb.start w).alloc (.cells (vc u) 24))
  have hz := zero27
  have heq := eql24g u o
  rw [hs] at heq
  clear hs
  unfold vv at HF HD ⊢
  unfold vc at S0
  go_enter Tryd.func54, Tryd.ntmps54
  go_wp2_with fail
  refine (HF.out _).mono ?_
  rintro _ w1 ⟨rfl, hb⟩
  have S1 := Lib.hid ((S0.out.up hb).alloc (.cells (fl fun _ => false) 94))
  have h1 := Lib.hid S1.out.heap
  have S2 := Lib.hid (S1.out.setRow (cs' := fl f) (by intro c hc; simp at hc; rw [hc]; have := (S0.out.up hb).lt; simp; omega))
  clear hb S0
  go_wp2_with (refine wpList_store_row rfl 94 (.tmp 3) (.tmp 6) rfl w1.heap.size (fl f) rfl rfl 94 _ h1.out (fsize27 f) (by rw [fl_size, fl_size]) (fl_one f) ?_)
  go_upto_region 2 with fail
  refine at_world (fun y => Sb w y [(w1.heap.size, .cells (fl f) 94), (w.heap.size, .cells #[.int .u64 (u 0), .int .u64 (u 1), .int .u64 (u 2), .int .u64 (u 3)] 24)]) S2.out fun y hy => ?_
  have S3 := Lib.hid hy
  clear S1 S2 h1 hy
  generalize w1.heap.size = b2 at *
  have a0 : y.cell? ⟨w.heap.size, 0, none⟩ = some (.int .u64 (u 0)) := S3.out.tl.cell 0
  have a1 : y.cell? ⟨w.heap.size, 1, none⟩ = some (.int .u64 (u 1)) := S3.out.tl.cell 1
  have a2 : y.cell? ⟨w.heap.size, 2, none⟩ = some (.int .u64 (u 2)) := S3.out.tl.cell 2
  have a3 : y.cell? ⟨w.heap.size, 3, none⟩ = some (.int .u64 (u 3)) := S3.out.tl.cell 3
  have az : w.heap.size < y.heap.size := S3.out.tl.lt
  go_region_held3 (fun w' => w'.cell? ⟨w.heap.size, 0, none⟩ = some (.int .u64 (u 0)) ∧ w'.cell? ⟨w.heap.size, 1, none⟩ = some (.int .u64 (u 1)) ∧ w'.cell? ⟨w.heap.size, 2, none⟩ = some (.int .u64 (u 2)) ∧ w'.cell? ⟨w.heap.size, 3, none⟩ = some (.int .u64 (u 3)) ∧ w.heap.size < w'.heap.size ∧ Below y.heap.size y w')
    (first | assumption | exact ⟨a0, a1, a2, a3, az, below_drewN (Below.refl _ _) 1⟩ | exact keepW (by assumption) hb)
    (first | (go_at_call 76; refine (HD.out _).mono ?_; rintro _ wq ⟨rfl, hb⟩))
  rename_i hHeld
  have S4 := Lib.hid (S3.out.up (keepW_k hHeld))
  clear hHeld hb S3 a0 a1 a2 a3 az
  have h4 := Lib.hid S4.out.heap
  go_wp2_with (refine wpList_load_row rfl 94 (.tmp 3) rfl b2 rfl 94 (fl f) (0, 0) _ h4.out Tryd.underlying94 rfl (fsize27 f) ?_)
  refine (HC.out _).mono ?_
  rintro _ w5 ⟨rfl, hb⟩
  have S5 := Lib.hid (S4.out.up hb)
  clear hb S4 h4
  have h5 := Lib.hid S5.out.heap
  go_wp2_with (refine wpList_load_row rfl 94 (.tmp 3) rfl b2 rfl 94 (fl f) (0, 0) _ h5.out Tryd.underlying94 rfl (fsize27 f) ?_)
  refine (HM.out _).mono ?_
  rintro _ w6 ⟨rfl, hb⟩
  have S6 := Lib.hid (S5.out.up hb)
  clear hb S5 h5
  have hix : ∀ h, (⟨#[c]⟩ : ByteArray)[0]'h = c := fun _ => rfl
  go_wp2_with fail
  go_ret
  exact ⟨rfl, S6.out.1⟩
set_option maxHeartbeats 4000000 in
set_option maxRecDepth 100000 in
theorem single_L13 (u o : Nat → Int) (f : Nat → Bool) (w : World) (HF : Hid (∀ w, Calls Tryd.prog 62 #[vv u] w fun e w' => e = .returned (.agg (fl f)) ∧ Below w.heap.size w w')) (HD : Hid (∀ w, Calls Tryd.prog 76 #[] w fun e w' => e = .returned (vv o) ∧ Below w.heap.size w w')) (hs : sameU u o = false) (c : UInt8) (e10 : ((c.toNat : Int) == 10) = false) (e9 : ((c.toNat : Int) == 9) = false) (e : ((c.toNat : Int) == 13) = true) (HC : Hid (∀ w, Calls Tryd.prog 77 #[.agg (fl f)] w fun e w' => e = .returned (.int .i64 1) ∧ Below w.heap.size w w')) (HM : Hid (∀ w, Calls Tryd.prog 79 #[.agg (fl f)] w fun e w' => e = .returned (.string ⟨#[c]⟩) ∧ Below w.heap.size w w')) :
    Calls Tryd.prog 54 #[vv u] w fun e w' => e = .returned (.string (bs [92, 114])) ∧ Below w.heap.size w w' := by
  have S0 := Lib.hid ((Sb.start w).alloc (.cells (vc u) 24))
  have hz := zero27
  have heq := eql24g u o
  rw [hs] at heq
  clear hs
  unfold vv at HF HD ⊢
  unfold vc at S0
  go_enter Tryd.func54, Tryd.ntmps54
  go_wp2_with fail
  refine (HF.out _).mono ?_
  rintro _ w1 ⟨rfl, hb⟩
  have S1 := Lib.hid ((S0.out.up hb).alloc (.cells (fl fun _ => false) 94))
  have h1 := Lib.hid S1.out.heap
  have S2 := Lib.hid (S1.out.setRow (cs' := fl f) (by intro c hc; simp at hc; rw [hc]; have := (S0.out.up hb).lt; simp; omega))
  clear hb S0
  go_wp2_with (refine wpList_store_row rfl 94 (.tmp 3) (.tmp 6) rfl w1.heap.size (fl f) rfl rfl 94 _ h1.out (fsize27 f) (by rw [fl_size, fl_size]) (fl_one f) ?_)
  go_upto_region 2 with fail
  refine at_world (fun y => Sb w y [(w1.heap.size, .cells (fl f) 94), (w.heap.size, .cells #[.int .u64 (u 0), .int .u64 (u 1), .int .u64 (u 2), .int .u64 (u 3)] 24)]) S2.out fun y hy => ?_
  have S3 := Lib.hid hy
  clear S1 S2 h1 hy
  generalize w1.heap.size = b2 at *
  have a0 : y.cell? ⟨w.heap.size, 0, none⟩ = some (.int .u64 (u 0)) := S3.out.tl.cell 0
  have a1 : y.cell? ⟨w.heap.size, 1, none⟩ = some (.int .u64 (u 1)) := S3.out.tl.cell 1
  have a2 : y.cell? ⟨w.heap.size, 2, none⟩ = some (.int .u64 (u 2)) := S3.out.tl.cell 2
  have a3 : y.cell? ⟨w.heap.size, 3, none⟩ = some (.int .u64 (u 3)) := S3.out.tl.cell 3
  have az : w.heap.size < y.heap.size := S3.out.tl.lt
  go_region_held3 (fun w' => w'.cell? ⟨w.heap.size, 0, none⟩ = some (.int .u64 (u 0)) ∧ w'.cell? ⟨w.heap.size, 1, none⟩ = some (.int .u64 (u 1)) ∧ w'.cell? ⟨w.heap.size, 2, none⟩ = some (.int .u64 (u 2)) ∧ w'.cell? ⟨w.heap.size, 3, none⟩ = some (.int .u64 (u 3)) ∧ w.heap.size < w'.heap.size ∧ Below y.heap.size y w')
    (first | assumption | exact ⟨a0, a1, a2, a3, az, below_drewN (Below.refl _ _) 1⟩ | exact keepW (by assumption) hb)
    (first | (go_at_call 76; refine (HD.out _).mono ?_; rintro _ wq ⟨rfl, hb⟩))
  rename_i hHeld
  have S4 := Lib.hid (S3.out.up (keepW_k hHeld))
  clear hHeld hb S3 a0 a1 a2 a3 az
  have h4 := Lib.hid S4.out.heap
  go_wp2_with (refine wpList_load_row rfl 94 (.tmp 3) rfl b2 rfl 94 (fl f) (0, 0) _ h4.out Tryd.underlying94 rfl (fsize27 f) ?_)
  refine (HC.out _).mono ?_
  rintro _ w5 ⟨rfl, hb⟩
  have S5 := Lib.hid (S4.out.up hb)
  clear hb S4 h4
  have h5 := Lib.hid S5.out.heap
  go_wp2_with (refine wpList_load_row rfl 94 (.tmp 3) rfl b2 rfl 94 (fl f) (0, 0) _ h5.out Tryd.underlying94 rfl (fsize27 f) ?_)
  refine (HM.out _).mono ?_
  rintro _ w6 ⟨rfl, hb⟩
  have S6 := Lib.hid (S5.out.up hb)
  clear hb S5 h5
  have hix : ∀ h, (⟨#[c]⟩ : ByteArray)[0]'h = c := fun _ => rfl
  go_wp2_with fail
  go_ret
  exact ⟨rfl, S6.out.1⟩
set_option maxHeartbeats 4000000 in
set_option maxRecDepth 100000 in
theorem single_S (u o : Nat → Int) (f : Nat → Bool) (w : World) (HF : Hid (∀ w, Calls Tryd.prog 62 #[vv u] w fun e w' => e = .returned (.agg (fl f)) ∧ Below w.heap.size w w')) (HD : Hid (∀ w, Calls Tryd.prog 76 #[] w fun e w' => e = .returned (vv o) ∧ Below w.heap.size w w')) (hs : sameU u o = false) (c : UInt8) (e10 : ((c.toNat : Int) == 10) = false) (e9 : ((c.toNat : Int) == 9) = false) (e13 : ((c.toNat : Int) == 13) = false) (HS : Hid (∀ w, Calls Tryd.prog 80 #[.int .u8 c.toNat] w fun e w' => e = .returned (.bool true) ∧ w = w')) (HC : Hid (∀ w, Calls Tryd.prog 77 #[.agg (fl f)] w fun e w' => e = .returned (.int .i64 1) ∧ Below w.heap.size w w')) (HM : Hid (∀ w, Calls Tryd.prog 79 #[.agg (fl f)] w fun e w' => e = .returned (.string ⟨#[c]⟩) ∧ Below w.heap.size w w')) :
    Calls Tryd.prog 54 #[vv u] w fun e w' => e = .returned (.string (bs [92, c])) ∧ Below w.heap.size w w' := by
  have S0 := Lib.hid ((Sb.start w).alloc (.cells (vc u) 24))
  have hz := zero27
  have heq := eql24g u o
  rw [hs] at heq
  clear hs
  unfold vv at HF HD ⊢
  unfold vc at S0
  go_enter Tryd.func54, Tryd.ntmps54
  go_wp2_with fail
  refine (HF.out _).mono ?_
  rintro _ w1 ⟨rfl, hb⟩
  have S1 := Lib.hid ((S0.out.up hb).alloc (.cells (fl fun _ => false) 94))
  have h1 := Lib.hid S1.out.heap
  have S2 := Lib.hid (S1.out.setRow (cs' := fl f) (by intro c hc; simp at hc; rw [hc]; have := (S0.out.up hb).lt; simp; omega))
  clear hb S0
  go_wp2_with (refine wpList_store_row rfl 94 (.tmp 3) (.tmp 6) rfl w1.heap.size (fl f) rfl rfl 94 _ h1.out (fsize27 f) (by rw [fl_size, fl_size]) (fl_one f) ?_)
  go_upto_region 2 with fail
  refine at_world (fun y => Sb w y [(w1.heap.size, .cells (fl f) 94), (w.heap.size, .cells #[.int .u64 (u 0), .int .u64 (u 1), .int .u64 (u 2), .int .u64 (u 3)] 24)]) S2.out fun y hy => ?_
  have S3 := Lib.hid hy
  clear S1 S2 h1 hy
  generalize w1.heap.size = b2 at *
  have a0 : y.cell? ⟨w.heap.size, 0, none⟩ = some (.int .u64 (u 0)) := S3.out.tl.cell 0
  have a1 : y.cell? ⟨w.heap.size, 1, none⟩ = some (.int .u64 (u 1)) := S3.out.tl.cell 1
  have a2 : y.cell? ⟨w.heap.size, 2, none⟩ = some (.int .u64 (u 2)) := S3.out.tl.cell 2
  have a3 : y.cell? ⟨w.heap.size, 3, none⟩ = some (.int .u64 (u 3)) := S3.out.tl.cell 3
  have az : w.heap.size < y.heap.size := S3.out.tl.lt
  go_region_held3 (fun w' => w'.cell? ⟨w.heap.size, 0, none⟩ = some (.int .u64 (u 0)) ∧ w'.cell? ⟨w.heap.size, 1, none⟩ = some (.int .u64 (u 1)) ∧ w'.cell? ⟨w.heap.size, 2, none⟩ = some (.int .u64 (u 2)) ∧ w'.cell? ⟨w.heap.size, 3, none⟩ = some (.int .u64 (u 3)) ∧ w.heap.size < w'.heap.size ∧ Below y.heap.size y w')
    (first | assumption | exact ⟨a0, a1, a2, a3, az, below_drewN (Below.refl _ _) 1⟩ | exact keepW (by assumption) hb)
    (first | (go_at_call 76; refine (HD.out _).mono ?_; rintro _ wq ⟨rfl, hb⟩))
  rename_i hHeld
  have S4 := Lib.hid (S3.out.up (keepW_k hHeld))
  clear hHeld hb S3 a0 a1 a2 a3 az
  have h4 := Lib.hid S4.out.heap
  go_wp2_with (refine wpList_load_row rfl 94 (.tmp 3) rfl b2 rfl 94 (fl f) (0, 0) _ h4.out Tryd.underlying94 rfl (fsize27 f) ?_)
  refine (HC.out _).mono ?_
  rintro _ w5 ⟨rfl, hb⟩
  have S5 := Lib.hid (S4.out.up hb)
  clear hb S4 h4
  have h5 := Lib.hid S5.out.heap
  go_wp2_with (refine wpList_load_row rfl 94 (.tmp 3) rfl b2 rfl 94 (fl f) (0, 0) _ h5.out Tryd.underlying94 rfl (fsize27 f) ?_)
  refine (HM.out _).mono ?_
  rintro _ w6 ⟨rfl, hb⟩
  have S6 := Lib.hid (S5.out.up hb)
  clear hb S5 h5
  have hix : ∀ h, (⟨#[c]⟩ : ByteArray)[0]'h = c := fun _ => rfl
  go_wp2_with fail
  refine (HS.out _).mono ?_
  rintro _ _ ⟨rfl, rfl⟩
  have hcv := conv_one w6 c.toNat c.toNat_lt
  rw [show UInt8.ofNat c.toNat = c by simp] at hcv
  go_wp2_with fail
  go_ret
  exact ⟨rfl, (S6.out.alloc _).1⟩
set_option maxHeartbeats 4000000 in
set_option maxRecDepth 100000 in
theorem single_P (u o : Nat → Int) (f : Nat → Bool) (w : World) (HF : Hid (∀ w, Calls Tryd.prog 62 #[vv u] w fun e w' => e = .returned (.agg (fl f)) ∧ Below w.heap.size w w')) (HD : Hid (∀ w, Calls Tryd.prog 76 #[] w fun e w' => e = .returned (vv o) ∧ Below w.heap.size w w')) (hs : sameU u o = false) (c : UInt8) (e10 : ((c.toNat : Int) == 10) = false) (e9 : ((c.toNat : Int) == 9) = false) (e13 : ((c.toNat : Int) == 13) = false) (HS : Hid (∀ w, Calls Tryd.prog 80 #[.int .u8 c.toNat] w fun e w' => e = .returned (.bool false) ∧ w = w')) (HC : Hid (∀ w, Calls Tryd.prog 77 #[.agg (fl f)] w fun e w' => e = .returned (.int .i64 1) ∧ Below w.heap.size w w')) (HM : Hid (∀ w, Calls Tryd.prog 79 #[.agg (fl f)] w fun e w' => e = .returned (.string ⟨#[c]⟩) ∧ Below w.heap.size w w')) :
    Calls Tryd.prog 54 #[vv u] w fun e w' => e = .returned (.string (bs [c])) ∧ Below w.heap.size w w' := by
  have S0 := Lib.hid ((Sb.start w).alloc (.cells (vc u) 24))
  have hz := zero27
  have heq := eql24g u o
  rw [hs] at heq
  clear hs
  unfold vv at HF HD ⊢
  unfold vc at S0
  go_enter Tryd.func54, Tryd.ntmps54
  go_wp2_with fail
  refine (HF.out _).mono ?_
  rintro _ w1 ⟨rfl, hb⟩
  have S1 := Lib.hid ((S0.out.up hb).alloc (.cells (fl fun _ => false) 94))
  have h1 := Lib.hid S1.out.heap
  have S2 := Lib.hid (S1.out.setRow (cs' := fl f) (by intro c hc; simp at hc; rw [hc]; have := (S0.out.up hb).lt; simp; omega))
  clear hb S0
  go_wp2_with (refine wpList_store_row rfl 94 (.tmp 3) (.tmp 6) rfl w1.heap.size (fl f) rfl rfl 94 _ h1.out (fsize27 f) (by rw [fl_size, fl_size]) (fl_one f) ?_)
  go_upto_region 2 with fail
  refine at_world (fun y => Sb w y [(w1.heap.size, .cells (fl f) 94), (w.heap.size, .cells #[.int .u64 (u 0), .int .u64 (u 1), .int .u64 (u 2), .int .u64 (u 3)] 24)]) S2.out fun y hy => ?_
  have S3 := Lib.hid hy
  clear S1 S2 h1 hy
  generalize w1.heap.size = b2 at *
  have a0 : y.cell? ⟨w.heap.size, 0, none⟩ = some (.int .u64 (u 0)) := S3.out.tl.cell 0
  have a1 : y.cell? ⟨w.heap.size, 1, none⟩ = some (.int .u64 (u 1)) := S3.out.tl.cell 1
  have a2 : y.cell? ⟨w.heap.size, 2, none⟩ = some (.int .u64 (u 2)) := S3.out.tl.cell 2
  have a3 : y.cell? ⟨w.heap.size, 3, none⟩ = some (.int .u64 (u 3)) := S3.out.tl.cell 3
  have az : w.heap.size < y.heap.size := S3.out.tl.lt
  go_region_held3 (fun w' => w'.cell? ⟨w.heap.size, 0, none⟩ = some (.int .u64 (u 0)) ∧ w'.cell? ⟨w.heap.size, 1, none⟩ = some (.int .u64 (u 1)) ∧ w'.cell? ⟨w.heap.size, 2, none⟩ = some (.int .u64 (u 2)) ∧ w'.cell? ⟨w.heap.size, 3, none⟩ = some (.int .u64 (u 3)) ∧ w.heap.size < w'.heap.size ∧ Below y.heap.size y w')
    (first | assumption | exact ⟨a0, a1, a2, a3, az, below_drewN (Below.refl _ _) 1⟩ | exact keepW (by assumption) hb)
    (first | (go_at_call 76; refine (HD.out _).mono ?_; rintro _ wq ⟨rfl, hb⟩))
  rename_i hHeld
  have S4 := Lib.hid (S3.out.up (keepW_k hHeld))
  clear hHeld hb S3 a0 a1 a2 a3 az
  have h4 := Lib.hid S4.out.heap
  go_wp2_with (refine wpList_load_row rfl 94 (.tmp 3) rfl b2 rfl 94 (fl f) (0, 0) _ h4.out Tryd.underlying94 rfl (fsize27 f) ?_)
  refine (HC.out _).mono ?_
  rintro _ w5 ⟨rfl, hb⟩
  have S5 := Lib.hid (S4.out.up hb)
  clear hb S4 h4
  have h5 := Lib.hid S5.out.heap
  go_wp2_with (refine wpList_load_row rfl 94 (.tmp 3) rfl b2 rfl 94 (fl f) (0, 0) _ h5.out Tryd.underlying94 rfl (fsize27 f) ?_)
  refine (HM.out _).mono ?_
  rintro _ w6 ⟨rfl, hb⟩
  have S6 := Lib.hid (S5.out.up hb)
  clear hb S5 h5
  have hix : ∀ h, (⟨#[c]⟩ : ByteArray)[0]'h = c := fun _ => rfl
  go_wp2_with fail
  refine (HS.out _).mono ?_
  rintro _ _ ⟨rfl, rfl⟩
  have hcv := conv_one w6 c.toNat c.toNat_lt
  rw [show UInt8.ofNat c.toNat = c by simp] at hcv
  go_wp2_with fail
  go_ret
  exact ⟨rfl, (S6.out.alloc _).1⟩
theorem single5_any (f : Nat → Bool) (w : World) : Calls Tryd.prog 54 #[vv (wf f)] w fun e w' => e = .returned (.string (bs (wset f))) ∧ Below w.heap.size w w' := by
  have HF : Hid (∀ w, Calls Tryd.prog 62 #[vv (wf f)] w fun e w' => e = .returned (.agg (fl f)) ∧ Below w.heap.size w w') := Lib.hid fun w => flags_any f w
  have HD : Hid (∀ w, Calls Tryd.prog 76 #[] w fun e w' => e = .returned (vv (wf inlF)) ∧ Below w.heap.size w w') := Lib.hid fun w => dot_any w
  have HC := Lib.hid fun w => rcount_any f w
  have HM := Lib.hid fun w => rmembers_any f w
  have HP := Lib.hid fun w => rprint_any f w
  unfold wset
  cases hs : sameU (wf f) (wf inlF) with
  | true => exact single_A5 _ _ f w HF HD hs
  | false =>
    by_cases h1 : cntF f 256 = 1
    · rw [if_neg (by simp), if_pos h1]
      have hl := mem_len f 256
      rw [h1] at hl HC
      obtain ⟨c, hc⟩ := List.length_eq_one_iff.1 hl
      rw [hc] at HM ⊢
      show Calls Tryd.prog 54 #[vv (wf f)] w fun e w' => e = .returned (.string (bs (wrb c))) ∧ Below w.heap.size w w'
      have HS := Lib.hid fun w => sign5_any c w
      unfold wrb
      by_cases h10 : c = 10
      · rw [if_pos h10]; exact single_L10 _ _ f w HF HD hs c (by rw [h10]; rfl) HC HM
      · rw [if_neg h10]
        have e10 : ((c.toNat : Int) == 10) = false := neqU c 10 (by omega) h10
        by_cases h9 : c = 9
        · rw [if_pos h9]; exact single_L9 _ _ f w HF HD hs c e10 (by rw [h9]; rfl) HC HM
        · rw [if_neg h9]
          have e9 : ((c.toNat : Int) == 9) = false := neqU c 9 (by omega) h9
          by_cases h13 : c = 13
          · rw [if_pos h13]; exact single_L13 _ _ f w HF HD hs c e10 e9 (by rw [h13]; rfl) HC HM
          · rw [if_neg h13]
            have e13 : ((c.toNat : Int) == 13) = false := neqU c 13 (by omega) h13
            cases hg : sgs.contains c with
            | true => rw [hg] at HS; rw [if_pos rfl]; exact single_S _ _ f w HF HD hs c e10 e9 e13 HS HC HM
            | false => rw [hg] at HS; rw [if_neg (by simp)]; exact single_P _ _ f w HF HD hs c e10 e9 e13 HS HC HM
    · rw [if_neg (by simp), if_neg h1]
      exact single_B5 _ _ f w HF HD hs _ (by rw [bne_iff_ne]; omega) HC _ HP
end
section
/- The document's part and told. -/
theorem keepO {v0 v1 v2 v3 v4 v5 v6 v7 : Value} {o0 o1 o2 o3 o4 o5 o6 o7 : Nat} {b0 b1 : Nat} {y w' w'' : World} (h : w'.cell? ⟨b0, o0, none⟩ = some v0 ∧ w'.cell? ⟨b0, o1, none⟩ = some v1 ∧ w'.cell? ⟨b1, o2, none⟩ = some v2 ∧ w'.cell? ⟨b1, o3, none⟩ = some v3 ∧ w'.cell? ⟨b1, o4, none⟩ = some v4 ∧ w'.cell? ⟨b1, o5, none⟩ = some v5 ∧ w'.cell? ⟨b1, o6, none⟩ = some v6 ∧ w'.cell? ⟨b1, o7, none⟩ = some v7 ∧ b0 < w'.heap.size ∧ b1 < w'.heap.size ∧ Below y.heap.size y w') (hb : Below w'.heap.size w' w'') : w''.cell? ⟨b0, o0, none⟩ = some v0 ∧ w''.cell? ⟨b0, o1, none⟩ = some v1 ∧ w''.cell? ⟨b1, o2, none⟩ = some v2 ∧ w''.cell? ⟨b1, o3, none⟩ = some v3 ∧ w''.cell? ⟨b1, o4, none⟩ = some v4 ∧ w''.cell? ⟨b1, o5, none⟩ = some v5 ∧ w''.cell? ⟨b1, o6, none⟩ = some v6 ∧ w''.cell? ⟨b1, o7, none⟩ = some v7 ∧ b0 < w''.heap.size ∧ b1 < w''.heap.size ∧ Below y.heap.size y w'' := by
  obtain ⟨h0, h1, h2, h3, h4, h5, h6, h7, z0, z1, K⟩ := h
  exact ⟨(hb.cell (p := ⟨b0, o0, none⟩) z0).trans h0, (hb.cell (p := ⟨b0, o1, none⟩) z0).trans h1, (hb.cell (p := ⟨b1, o2, none⟩) z1).trans h2, (hb.cell (p := ⟨b1, o3, none⟩) z1).trans h3, (hb.cell (p := ⟨b1, o4, none⟩) z1).trans h4, (hb.cell (p := ⟨b1, o5, none⟩) z1).trans h5, (hb.cell (p := ⟨b1, o6, none⟩) z1).trans h6, (hb.cell (p := ⟨b1, o7, none⟩) z1).trans h7, Nat.lt_of_lt_of_le z0 hb.size, Nat.lt_of_lt_of_le z1 hb.size, K.trans (hb.mono K.size)⟩
theorem keepO_k {v0 v1 v2 v3 v4 v5 v6 v7 : Value} {o0 o1 o2 o3 o4 o5 o6 o7 : Nat} {b0 b1 : Nat} {y w' : World} (h : w'.cell? ⟨b0, o0, none⟩ = some v0 ∧ w'.cell? ⟨b0, o1, none⟩ = some v1 ∧ w'.cell? ⟨b1, o2, none⟩ = some v2 ∧ w'.cell? ⟨b1, o3, none⟩ = some v3 ∧ w'.cell? ⟨b1, o4, none⟩ = some v4 ∧ w'.cell? ⟨b1, o5, none⟩ = some v5 ∧ w'.cell? ⟨b1, o6, none⟩ = some v6 ∧ w'.cell? ⟨b1, o7, none⟩ = some v7 ∧ b0 < w'.heap.size ∧ b1 < w'.heap.size ∧ Below y.heap.size y w') : Below y.heap.size y w' := h.2.2.2.2.2.2.2.2.2.2
theorem wrL_get {k : Int} {bt : List UInt8} : ∀ (ts : List RT) (fs : Bool) (i : Nat) (h : i < ts.length), (wrT ts[i]).length ≤ (wrL k bt fs ts).length
  | t :: ts, fs, 0, h => by
    rw [wrL, List.length_append, List.length_append]
    show (wrT t).length ≤ _
    cases encB k (kindT t) <;> simp <;> omega
  | t :: ts, fs, i + 1, h => by
    have := wrL_get (k := k) (bt := bt) ts false i (by simpa using h)
    rw [wrL, List.length_append, List.length_append]
    show (wrT (ts[i]'(by simpa using h))).length ≤ _
    omega
/-- What told answers. -/
def ToldC (D : Nat → Prop) (t : RT) : Prop := Hid (∀ v w, RV D w t v → (∀ b, D b → b < w.heap.size) → Calls Tryd.prog 42 #[v] w fun e w' => e = .returned (.string (bs (wrT t))) ∧ Below w.heap.size w w')
def prtX (k : Int) (t : RT) : List UInt8 := bif encB k (kindT t) then [40] ++ wrT t ++ [41] else wrT t
set_option maxHeartbeats 4000000 in
theorem part5_any {D : Nat → Prop} {k q : Int} {u : Nat → Int} {ps : List RT} {v : Value} {w : World} (hD : ∀ b, D b → b < w.heap.size) (h : RV D w (.mk q u ps) v) (hI : ToldC D (.mk q u ps)) (hlen : (wrT (.mk q u ps)).length ≤ 300000) :
    Calls Tryd.prog 55 #[.int .i64 k, v] w fun e w' => e = .returned (.string (bs (prtX k (.mk q u ps)))) ∧ Below w.heap.size w w' := by
  have hk0 : kindT (.mk q u ps) = q := rfl
  unfold prtX
  rw [hk0]
  obtain ⟨p, c, rfl, hp⟩ := h.parts
  have S0 := Lib.hid ((Sb.start w).alloc (.cells #[.int .i64 q, .int .u64 (u 0), .int .u64 (u 1), .int .u64 (u 2), .int .u64 (u 3), .slice p ps.length c] 27))
  have HC := Lib.hid (hI.out _ (w.alloc (.cells #[.int .i64 q, .int .u64 (u 0), .int .u64 (u 1), .int .u64 (u 2), .int .u64 (u 3), .slice p ps.length c] 27)) (RV.mono (fun b h => h) (fun b hb hlt => heap_alloc_old w _ hlt) h) (fun b hb => by have := hD b hb; simp; omega))
  generalize wrT (.mk q u ps) = R at *
  have hn1 : ¬ 9223372036854775807 < 1 + R.length := by omega
  have hn2 : ¬ 9223372036854775807 < 1 + R.length + 1 := by omega
  clear h hp hI hk0 hlen
  have e1 : bs [40] = (⟨#[40]⟩ : ByteArray) := rfl
  have e2 : bs [41] = (⟨#[41]⟩ : ByteArray) := rfl
  have fin1 : (⟨#[40]⟩ : ByteArray) ++ bs R ++ ⟨#[41]⟩ = bs ([40] ++ R ++ [41]) := by rw [← e1, ← e2, bs_app, bs_app]
  obtain ⟨Z, hZ⟩ : ∃ Z, bs ([40] ++ R ++ [41]) = Z := ⟨_, rfl⟩
  rw [hZ] at fin1
  have HF := Lib.hid fin1
  have HZ := Lib.hid hZ
  clear fin1 hZ e1 e2
  by_cases h4 : q = 4
  · subst h4
    have he : encB k 4 = true := by unfold encB; split <;> rfl
    rw [he, cond_true, HZ.out]
    clear he
    go_enter Tryd.func55, Tryd.ntmps55
    go_wp2_with fail
    refine HC.out.mono ?_
    rintro _ w1 ⟨rfl, hb⟩
    have S1 := Lib.hid (S0.out.up hb)
    have d0 := S1.out.cell 0
    clear hb HC S0
    go_wp2_with fail
    go_ret
    exact ⟨by first | rfl | (rw [← HF.out]; rfl), S1.out.1⟩
  · have n4 : (q == 4) = false := by simpa using h4
    by_cases hk : k = 4
    · subst hk
      have he : encB 4 q = false := by unfold encB; rw [if_pos rfl, n4]
      rw [he, cond_false]
      clear he
      go_enter Tryd.func55, Tryd.ntmps55
      go_wp2_with fail
      refine HC.out.mono ?_
      rintro _ w1 ⟨rfl, hb⟩
      have S1 := Lib.hid (S0.out.up hb)
      have d0 := S1.out.cell 0
      clear hb HC S0
      go_wp2_with fail
      go_ret
      exact ⟨rfl, S1.out.1⟩
    · have nk : (k != 4) = true := by rw [bne_iff_ne]; exact hk
      by_cases h1 : q = 1
      · subst h1
        have he : encB k 1 = true := by unfold encB; rw [if_neg hk]; rfl
        rw [he, cond_true, HZ.out]
        clear he
        go_enter Tryd.func55, Tryd.ntmps55
        go_wp2_with fail
        refine HC.out.mono ?_
        rintro _ w1 ⟨rfl, hb⟩
        have S1 := Lib.hid (S0.out.up hb)
        have d0 := S1.out.cell 0
        clear hb HC S0
        go_wp2_with fail
        go_ret
        exact ⟨by first | rfl | (rw [← HF.out]; rfl), S1.out.1⟩
      · have n1 : (q == 1) = false := by simpa using h1
        by_cases h3 : q = 3
        · subst h3
          have he : encB k 3 = true := by unfold encB; rw [if_neg hk]; rfl
          rw [he, cond_true, HZ.out]
          clear he
          go_enter Tryd.func55, Tryd.ntmps55
          go_wp2_with fail
          refine HC.out.mono ?_
          rintro _ w1 ⟨rfl, hb⟩
          have S1 := Lib.hid (S0.out.up hb)
          have d0 := S1.out.cell 0
          clear hb HC S0
          go_wp2_with fail
          go_ret
          exact ⟨by first | rfl | (rw [← HF.out]; rfl), S1.out.1⟩
        · have n3 : (q == 3) = false := by simpa using h3
          have he : encB k q = false := by unfold encB; rw [if_neg hk, n1, n3, n4]; rfl
          rw [he, cond_false]
          clear he
          go_enter Tryd.func55, Tryd.ntmps55
          go_wp2_with fail
          refine HC.out.mono ?_
          rintro _ w1 ⟨rfl, hb⟩
          have S1 := Lib.hid (S0.out.up hb)
          have d0 := S1.out.cell 0
          clear hb HC S0
          go_wp2_with fail
          go_ret
          exact ⟨rfl, S1.out.1⟩
set_option maxHeartbeats 8000000 in
theorem told_0 {D : Nat → Prop} {u : Nat → Int} {ps : List RT} {v : Value} {w : World} (hD : ∀ b, D b → b < w.heap.size) (hl : ps.length ≤ 9223372036854775806) (h : RV D w (.mk 0 u ps) v) :
    Calls Tryd.prog 42 #[v] w fun e w' => e = .returned (.string (bs [91, 93])) ∧ Below w.heap.size w w' := by
  obtain ⟨p, c, rfl, hp⟩ := h.parts
  have HP := Lib.hid hp
  clear h hp
  have S0 := Lib.hid ((Sb.start w).alloc (.cells #[.int .i64 0, .int .u64 (u 0), .int .u64 (u 1), .int .u64 (u 2), .int .u64 (u 3), .slice p ps.length c] 27))
  go_enter Tryd.func42, Tryd.ntmps42
  go_wp2_with fail
  go_ret
  exact ⟨rfl, S0.out.1⟩
set_option maxHeartbeats 8000000 in
theorem told_1 {D : Nat → Prop} {u : Nat → Int} {ps : List RT} {v : Value} {w : World} (hD : ∀ b, D b → b < w.heap.size) (hl : ps.length ≤ 9223372036854775806) (h : RV D w (.mk 1 u ps) v) :
    Calls Tryd.prog 42 #[v] w fun e w' => e = .returned (.string (bs [])) ∧ Below w.heap.size w w' := by
  obtain ⟨p, c, rfl, hp⟩ := h.parts
  have HP := Lib.hid hp
  clear h hp
  have S0 := Lib.hid ((Sb.start w).alloc (.cells #[.int .i64 1, .int .u64 (u 0), .int .u64 (u 1), .int .u64 (u 2), .int .u64 (u 3), .slice p ps.length c] 27))
  go_enter Tryd.func42, Tryd.ntmps42
  go_wp2_with fail
  go_ret
  exact ⟨rfl, S0.out.1⟩
set_option maxHeartbeats 8000000 in
theorem told_2 {D : Nat → Prop} {u : Nat → Int} {ps : List RT} {v : Value} {w : World} (hD : ∀ b, D b → b < w.heap.size) (hl : ps.length ≤ 9223372036854775806) (h : RV D w (.mk 2 u ps) v) (hu : okU u) :
    Calls Tryd.prog 42 #[v] w fun e w' => e = .returned (.string (bs (wset (fOf u)))) ∧ Below w.heap.size w w' := by
  obtain ⟨p, c, rfl, hp⟩ := h.parts
  have HP := Lib.hid hp
  clear h hp
  have S0 := Lib.hid ((Sb.start w).alloc (.cells #[.int .i64 2, .int .u64 (u 0), .int .u64 (u 1), .int .u64 (u 2), .int .u64 (u 3), .slice p ps.length c] 27))
  have HS := Lib.hid fun w => single5_any (fOf u) w
  have hvv : vv (wf (fOf u)) = vv u := by unfold vv; rw [← hu 0 (by omega), ← hu 1 (by omega), ← hu 2 (by omega), ← hu 3 (by omega)]
  rw [hvv] at HS
  unfold vv at HS
  generalize wset (fOf u) = R at *
  clear hvv hu
  go_enter Tryd.func42, Tryd.ntmps42
  go_wp2_with fail
  refine (HS.out _).mono ?_
  rintro _ w1 ⟨rfl, hb⟩
  have S1 := Lib.hid (S0.out.up hb)
  clear hb S0
  go_wp2_with fail
  go_ret
  exact ⟨rfl, S1.out.1⟩
set_option maxHeartbeats 8000000 in
theorem told_3 {D : Nat → Prop} {u : Nat → Int} {ps : List RT} {v : Value} {w : World} (hD : ∀ b, D b → b < w.heap.size) (hl : ps.length ≤ 9223372036854775806) (h : RV D w (.mk 3 u ps) v) (hI : Hid (∀ i (hi : i < ps.length) v w, RV D w ps[i] v → (∀ b, D b → b < w.heap.size) → Calls Tryd.prog 55 #[.int .i64 3, v] w fun e w' => e = .returned (.string (bs (prtX 3 ps[i]))) ∧ Below w.heap.size w w')) (hlen : (wrL 3 [] true ps).length ≤ 300000) :
    Calls Tryd.prog 42 #[v] w fun e w' => e = .returned (.string (bs (wrL 3 [] true ps))) ∧ Below w.heap.size w w' := by
  obtain ⟨p, c, rfl, hp⟩ := h.parts
  have HP := Lib.hid hp
  clear h hp
  have S0 := Lib.hid ((Sb.start w).alloc (.cells #[.int .i64 3, .int .u64 (u 0), .int .u64 (u 1), .int .u64 (u 2), .int .u64 (u 3), .slice p ps.length c] 27))
  obtain ⟨R, hR⟩ : ∃ R, wrL 3 [] true ps = R := ⟨_, rfl⟩
  rw [hR]
  rw [hR] at hlen
  have HR := Lib.hid hR
  clear hR
  go_enter Tryd.func42, Tryd.ntmps42
  go_wp2_with fail
  go_loopw [3, 4] (fun s i wr => ∃ (j : Nat) (l : List UInt8), j ≤ ps.length ∧ i = .int .i64 j ∧ s = .string (bs l) ∧ Hid (l ++ wrL 3 [] (decide (j = 0)) (ps.drop j) = R) ∧ Hid (Sb w wr [(w.heap.size, .cells #[.int .i64 3, .int .u64 (u 0), .int .u64 (u 1), .int .u64 (u 2), .int .u64 (u 3), .slice p ps.length c] 27)])) (fun _ i _ => ps.length - (intOf i).toNat)
  case atStart => exact ⟨0, [], by omega, rfl, rfl, HR, S0⟩
  case round =>
    obtain ⟨j, l, hj, rfl, rfl, HC, HS⟩ := hrel
    clear S0 HR
    have q5 : wr.cell? ⟨w.heap.size, 5, none⟩ = some (.slice p ps.length c) := HS.out.cell 5
    have q0 : wr.cell? ⟨w.heap.size, 0, none⟩ = some (.int .i64 3) := HS.out.cell 0
    by_cases hlt : j < ps.length
    · have hne : ps ≠ [] := by intro e; subst e; simp at hlt
      obtain ⟨b, o, rfl, hDb, hx⟩ := HP.out hne
      obtain ⟨k', u', p', n', c', hv, hcell⟩ := hx j hlt
      have hbw := hD b hDb
      have hB := HS.out.1
      have cc : ∀ i y, (nodeC k' u' (.slice p' n' c'))[i]? = some y → wr.cell? ⟨b, o + j * 6 + i, none⟩ = some y := fun i y hy => by
        rw [hB.cell (p := ⟨b, o + j * 6 + i, none⟩) hbw, ← hcell i y hy, show o + j * 6 + i = o + (6 * j + i) by omega]
      have d0 : wr.cell? ⟨b, o + j * 6, none⟩ = some (.int .i64 k') := cc 0 _ rfl
      have d1 : wr.cell? ⟨b, o + j * 6 + 1, none⟩ = some (.int .u64 (u' 0)) := cc 1 _ rfl
      have d2 : wr.cell? ⟨b, o + j * 6 + 2, none⟩ = some (.int .u64 (u' 1)) := cc 2 _ rfl
      have d3 : wr.cell? ⟨b, o + j * 6 + 3, none⟩ = some (.int .u64 (u' 2)) := cc 3 _ rfl
      have d4 : wr.cell? ⟨b, o + j * 6 + 4, none⟩ = some (.int .u64 (u' 3)) := cc 4 _ rfl
      have d5 : wr.cell? ⟨b, o + j * 6 + 5, none⟩ = some (.slice p' n' c') := cc 5 _ rfl
      have z1 : w.heap.size < wr.heap.size := HS.out.lt
      have z2 : b < wr.heap.size := Nat.lt_of_lt_of_le hbw hB.size
      have HK : Hid (∀ z, Below wr.heap.size wr z → Calls Tryd.prog 55 #[.int .i64 3, .agg (nodeC k' u' (.slice p' n' c'))] z fun e w' => e = .returned (.string (bs (prtX 3 ps[j]))) ∧ Below z.heap.size z w') := Lib.hid fun z hb => by
        have hk : ∀ x, x < w.heap.size → z.heap[x]? = w.heap[x]? := fun x hx => (hb.block x (Nat.lt_of_lt_of_le hx hB.size)).trans (hB.block x hx)
        exact hI.out j hlt _ z (RV.mono (fun b h => h) (fun x hx _ => hk x (hD x hx)) hv) (fun x hx => Nat.lt_of_lt_of_le (hD x hx) (Nat.le_trans hB.size hb.size))
      unfold nodeC at HK
      have hC2 := HC.out
      rw [wrL_drop hlt] at hC2
      have hpx : (bif encB 3 (kindT ps[j]) then [40] ++ wrT ps[j] ++ [41] else wrT ps[j]) = prtX 3 ps[j] := rfl
      rw [hpx] at hC2
      generalize prtX 3 ps[j] = P at *
      have hPl : l.length + P.length + 1 ≤ R.length + 1 := by rw [← hC2]; simp only [List.length_append]; omega
      have hs1 : ¬ 9223372036854775807 < l.length + P.length := by omega
      have hs2 : ¬ 9223372036854775807 < l.length + 1 := by omega
      have hs3 : ¬ 9223372036854775807 < l.length + 1 + P.length := by omega
      have HC2 := Lib.hid hC2
      have hlt' : (j : Int) < (ps.length : Int) := by omega
      clear cc hv hcell hx hB hC2 hpx HC
      go_upto_region 14 with fail
      go_region_held3 (fun w' => w'.cell? ⟨w.heap.size, 0, none⟩ = some (.int .i64 3) ∧ w'.cell? ⟨w.heap.size, 5, none⟩ = some (.slice (some ⟨b, o, none⟩) ps.length c) ∧ w'.cell? ⟨b, o + j * 6, none⟩ = some (.int .i64 k') ∧ w'.cell? ⟨b, o + j * 6 + 1, none⟩ = some (.int .u64 (u' 0)) ∧ w'.cell? ⟨b, o + j * 6 + 2, none⟩ = some (.int .u64 (u' 1)) ∧ w'.cell? ⟨b, o + j * 6 + 3, none⟩ = some (.int .u64 (u' 2)) ∧ w'.cell? ⟨b, o + j * 6 + 4, none⟩ = some (.int .u64 (u' 3)) ∧ w'.cell? ⟨b, o + j * 6 + 5, none⟩ = some (.slice p' n' c') ∧ w.heap.size < w'.heap.size ∧ b < w'.heap.size ∧ Below wr.heap.size wr w')
        (first | assumption | exact ⟨q0, q5, d0, d1, d2, d3, d4, d5, z1, z2, below_drewN (Below.refl _ _) 1⟩ | exact keepO (by assumption) hb)
        (first | (go_at_call 55; refine (HK.out _ (keepO_k (by assumption))).mono ?_; rintro _ wq ⟨rfl, hb⟩))
      rename_i hHeld
      have HS2 := Lib.hid (HS.out.up (keepO_k hHeld))
      clear hHeld hb HK HS q0 q5 d0 d1 d2 d3 d4 d5 z1 z2
      go_wp2_with fail
      go_roundw
      case rel => exact ⟨j + 1, l ++ P, by omega, by go_num, by rw [bs_app], Lib.hid (by have := HC2.out; simp only [List.append_assoc] at this ⊢; cases hd : decide (j = 0) <;> (rw [hd] at this; simpa using this)), HS2⟩
      case measure => simp [intOf]; omega
    · obtain rfl : j = ps.length := by omega
      have hlt' : ¬ ((ps.length : Int) < (ps.length : Int)) := by omega
      have hl2 : l = R := by have := HC.out; rw [List.drop_length, wrL_nil, List.append_nil] at this; exact this
      have hs2 : ¬ 9223372036854775807 < l.length + 1 := by rw [hl2]; omega
      subst hl2
      go_wp2_with fail
      go_ret
      exact ⟨rfl, HS.out.1⟩
set_option maxHeartbeats 8000000 in
theorem told_4 {D : Nat → Prop} {u : Nat → Int} {ps : List RT} {v : Value} {w : World} (hD : ∀ b, D b → b < w.heap.size) (hl : ps.length ≤ 9223372036854775806) (h : RV D w (.mk 4 u ps) v) (hI : Hid (∀ i (hi : i < ps.length) v w, RV D w ps[i] v → (∀ b, D b → b < w.heap.size) → Calls Tryd.prog 55 #[.int .i64 4, v] w fun e w' => e = .returned (.string (bs (prtX 4 ps[i]))) ∧ Below w.heap.size w w')) (hlen : (wrL 4 [124] true ps).length ≤ 300000) :
    Calls Tryd.prog 42 #[v] w fun e w' => e = .returned (.string (bs (wrL 4 [124] true ps))) ∧ Below w.heap.size w w' := by
  obtain ⟨p, c, rfl, hp⟩ := h.parts
  have HP := Lib.hid hp
  clear h hp
  have S0 := Lib.hid ((Sb.start w).alloc (.cells #[.int .i64 4, .int .u64 (u 0), .int .u64 (u 1), .int .u64 (u 2), .int .u64 (u 3), .slice p ps.length c] 27))
  obtain ⟨R, hR⟩ : ∃ R, wrL 4 [124] true ps = R := ⟨_, rfl⟩
  rw [hR]
  rw [hR] at hlen
  have HR := Lib.hid hR
  clear hR
  go_enter Tryd.func42, Tryd.ntmps42
  go_wp2_with fail
  go_loopw [3, 4] (fun s i wr => ∃ (j : Nat) (l : List UInt8), j ≤ ps.length ∧ i = .int .i64 j ∧ s = .string (bs l) ∧ Hid (l ++ wrL 4 [124] (decide (j = 0)) (ps.drop j) = R) ∧ Hid (Sb w wr [(w.heap.size, .cells #[.int .i64 4, .int .u64 (u 0), .int .u64 (u 1), .int .u64 (u 2), .int .u64 (u 3), .slice p ps.length c] 27)])) (fun _ i _ => ps.length - (intOf i).toNat)
  case atStart => exact ⟨0, [], by omega, rfl, rfl, HR, S0⟩
  case round =>
    obtain ⟨j, l, hj, rfl, rfl, HC, HS⟩ := hrel
    clear S0 HR
    have q5 : wr.cell? ⟨w.heap.size, 5, none⟩ = some (.slice p ps.length c) := HS.out.cell 5
    have q0 : wr.cell? ⟨w.heap.size, 0, none⟩ = some (.int .i64 4) := HS.out.cell 0
    by_cases hlt : j < ps.length
    · have hne : ps ≠ [] := by intro e; subst e; simp at hlt
      obtain ⟨b, o, rfl, hDb, hx⟩ := HP.out hne
      obtain ⟨k', u', p', n', c', hv, hcell⟩ := hx j hlt
      have hbw := hD b hDb
      have hB := HS.out.1
      have cc : ∀ i y, (nodeC k' u' (.slice p' n' c'))[i]? = some y → wr.cell? ⟨b, o + j * 6 + i, none⟩ = some y := fun i y hy => by
        rw [hB.cell (p := ⟨b, o + j * 6 + i, none⟩) hbw, ← hcell i y hy, show o + j * 6 + i = o + (6 * j + i) by omega]
      have d0 : wr.cell? ⟨b, o + j * 6, none⟩ = some (.int .i64 k') := cc 0 _ rfl
      have d1 : wr.cell? ⟨b, o + j * 6 + 1, none⟩ = some (.int .u64 (u' 0)) := cc 1 _ rfl
      have d2 : wr.cell? ⟨b, o + j * 6 + 2, none⟩ = some (.int .u64 (u' 1)) := cc 2 _ rfl
      have d3 : wr.cell? ⟨b, o + j * 6 + 3, none⟩ = some (.int .u64 (u' 2)) := cc 3 _ rfl
      have d4 : wr.cell? ⟨b, o + j * 6 + 4, none⟩ = some (.int .u64 (u' 3)) := cc 4 _ rfl
      have d5 : wr.cell? ⟨b, o + j * 6 + 5, none⟩ = some (.slice p' n' c') := cc 5 _ rfl
      have z1 : w.heap.size < wr.heap.size := HS.out.lt
      have z2 : b < wr.heap.size := Nat.lt_of_lt_of_le hbw hB.size
      have HK : Hid (∀ z, Below wr.heap.size wr z → Calls Tryd.prog 55 #[.int .i64 4, .agg (nodeC k' u' (.slice p' n' c'))] z fun e w' => e = .returned (.string (bs (prtX 4 ps[j]))) ∧ Below z.heap.size z w') := Lib.hid fun z hb => by
        have hk : ∀ x, x < w.heap.size → z.heap[x]? = w.heap[x]? := fun x hx => (hb.block x (Nat.lt_of_lt_of_le hx hB.size)).trans (hB.block x hx)
        exact hI.out j hlt _ z (RV.mono (fun b h => h) (fun x hx _ => hk x (hD x hx)) hv) (fun x hx => Nat.lt_of_lt_of_le (hD x hx) (Nat.le_trans hB.size hb.size))
      unfold nodeC at HK
      have hC2 := HC.out
      rw [wrL_drop hlt] at hC2
      have hpx : (bif encB 4 (kindT ps[j]) then [40] ++ wrT ps[j] ++ [41] else wrT ps[j]) = prtX 4 ps[j] := rfl
      rw [hpx] at hC2
      generalize prtX 4 ps[j] = P at *
      have hPl : l.length + P.length + 1 ≤ R.length + 1 := by rw [← hC2]; simp only [List.length_append]; omega
      have hs1 : ¬ 9223372036854775807 < l.length + P.length := by omega
      have hs2 : ¬ 9223372036854775807 < l.length + 1 := by omega
      have hs3 : ¬ 9223372036854775807 < l.length + 1 + P.length := by omega
      have HC2 := Lib.hid hC2
      have hlt' : (j : Int) < (ps.length : Int) := by omega
      clear cc hv hcell hx hB hC2 hpx HC
      by_cases hj0 : j = 0
      · have hg0 : ¬ (0 : Int) < ((j : Nat) : Int) := by omega
        have HJ := Lib.hid hj0
        clear hj0
        go_upto_region 14 with fail
        go_region_held3 (fun w' => w'.cell? ⟨w.heap.size, 0, none⟩ = some (.int .i64 4) ∧ w'.cell? ⟨w.heap.size, 5, none⟩ = some (.slice (some ⟨b, o, none⟩) ps.length c) ∧ w'.cell? ⟨b, o + j * 6, none⟩ = some (.int .i64 k') ∧ w'.cell? ⟨b, o + j * 6 + 1, none⟩ = some (.int .u64 (u' 0)) ∧ w'.cell? ⟨b, o + j * 6 + 2, none⟩ = some (.int .u64 (u' 1)) ∧ w'.cell? ⟨b, o + j * 6 + 3, none⟩ = some (.int .u64 (u' 2)) ∧ w'.cell? ⟨b, o + j * 6 + 4, none⟩ = some (.int .u64 (u' 3)) ∧ w'.cell? ⟨b, o + j * 6 + 5, none⟩ = some (.slice p' n' c') ∧ w.heap.size < w'.heap.size ∧ b < w'.heap.size ∧ Below wr.heap.size wr w')
          (first | assumption | exact ⟨q0, q5, d0, d1, d2, d3, d4, d5, z1, z2, below_drewN (Below.refl _ _) 1⟩ | exact keepO (by assumption) hb)
          (first | (go_at_call 55; refine (HK.out _ (keepO_k (by assumption))).mono ?_; rintro _ wq ⟨rfl, hb⟩))
        rename_i hHeld
        have HS2 := Lib.hid (HS.out.up (keepO_k hHeld))
        clear hHeld hb HK HS q0 q5 d0 d1 d2 d3 d4 d5 z1 z2
        go_wp2_with fail
        go_roundw
        case rel => exact ⟨j + 1, l ++ P, by omega, by go_num, by rw [bs_app], Lib.hid (by have := HC2.out; rw [decide_eq_true HJ.out] at this; simpa using this), HS2⟩
        case measure => simp [intOf]; omega
      · have hg0 : (0 : Int) < ((j : Nat) : Int) := by omega
        go_upto_region 14 with fail
        go_region_held3 (fun w' => w'.cell? ⟨w.heap.size, 0, none⟩ = some (.int .i64 4) ∧ w'.cell? ⟨w.heap.size, 5, none⟩ = some (.slice (some ⟨b, o, none⟩) ps.length c) ∧ w'.cell? ⟨b, o + j * 6, none⟩ = some (.int .i64 k') ∧ w'.cell? ⟨b, o + j * 6 + 1, none⟩ = some (.int .u64 (u' 0)) ∧ w'.cell? ⟨b, o + j * 6 + 2, none⟩ = some (.int .u64 (u' 1)) ∧ w'.cell? ⟨b, o + j * 6 + 3, none⟩ = some (.int .u64 (u' 2)) ∧ w'.cell? ⟨b, o + j * 6 + 4, none⟩ = some (.int .u64 (u' 3)) ∧ w'.cell? ⟨b, o + j * 6 + 5, none⟩ = some (.slice p' n' c') ∧ w.heap.size < w'.heap.size ∧ b < w'.heap.size ∧ Below wr.heap.size wr w')
          (first | assumption | exact ⟨q0, q5, d0, d1, d2, d3, d4, d5, z1, z2, below_drewN (Below.refl _ _) 1⟩ | exact keepO (by assumption) hb)
          (first | (go_at_call 55; refine (HK.out _ (keepO_k (by assumption))).mono ?_; rintro _ wq ⟨rfl, hb⟩))
        rename_i hHeld
        have HS2 := Lib.hid (HS.out.up (keepO_k hHeld))
        clear hHeld hb HK HS q0 q5 d0 d1 d2 d3 d4 d5 z1 z2
        go_wp2_with fail
        go_roundw
        case rel => exact ⟨j + 1, l ++ [124] ++ P, by omega, by go_num, by rw [← bs_app, ← bs_app], Lib.hid (by have := HC2.out; rw [decide_eq_false hj0] at this; simpa using this), HS2⟩
        case measure => simp [intOf]; omega
    · obtain rfl : j = ps.length := by omega
      have hlt' : ¬ ((ps.length : Int) < (ps.length : Int)) := by omega
      have hl2 : l = R := by have := HC.out; rw [List.drop_length, wrL_nil, List.append_nil] at this; exact this
      have hs2 : ¬ 9223372036854775807 < l.length + 1 := by rw [hl2]; omega
      subst hl2
      go_wp2_with fail
      go_ret
      exact ⟨rfl, HS.out.1⟩
set_option maxHeartbeats 8000000 in
theorem told_5 {D : Nat → Prop} {u : Nat → Int} {ps : List RT} {v : Value} {w : World} (hD : ∀ b, D b → b < w.heap.size) (hl : ps.length ≤ 9223372036854775806) (h : RV D w (.mk 5 u ps) v) (hI : Hid (∀ i (hi : i < ps.length) v w, RV D w ps[i] v → (∀ b, D b → b < w.heap.size) → Calls Tryd.prog 55 #[.int .i64 5, v] w fun e w' => e = .returned (.string (bs (prtX 5 ps[i]))) ∧ Below w.heap.size w w')) (hlen : (wrL 5 [] true ps).length ≤ 300000) :
    Calls Tryd.prog 42 #[v] w fun e w' => e = .returned (.string (bs (wrL 5 [] true ps ++ [42]))) ∧ Below w.heap.size w w' := by
  obtain ⟨p, c, rfl, hp⟩ := h.parts
  have HP := Lib.hid hp
  clear h hp
  have S0 := Lib.hid ((Sb.start w).alloc (.cells #[.int .i64 5, .int .u64 (u 0), .int .u64 (u 1), .int .u64 (u 2), .int .u64 (u 3), .slice p ps.length c] 27))
  obtain ⟨R, hR⟩ : ∃ R, wrL 5 [] true ps = R := ⟨_, rfl⟩
  rw [hR]
  rw [hR] at hlen
  have HR := Lib.hid hR
  clear hR
  go_enter Tryd.func42, Tryd.ntmps42
  go_wp2_with fail
  go_loopw [3, 4] (fun s i wr => ∃ (j : Nat) (l : List UInt8), j ≤ ps.length ∧ i = .int .i64 j ∧ s = .string (bs l) ∧ Hid (l ++ wrL 5 [] (decide (j = 0)) (ps.drop j) = R) ∧ Hid (Sb w wr [(w.heap.size, .cells #[.int .i64 5, .int .u64 (u 0), .int .u64 (u 1), .int .u64 (u 2), .int .u64 (u 3), .slice p ps.length c] 27)])) (fun _ i _ => ps.length - (intOf i).toNat)
  case atStart => exact ⟨0, [], by omega, rfl, rfl, HR, S0⟩
  case round =>
    obtain ⟨j, l, hj, rfl, rfl, HC, HS⟩ := hrel
    clear S0 HR
    have q5 : wr.cell? ⟨w.heap.size, 5, none⟩ = some (.slice p ps.length c) := HS.out.cell 5
    have q0 : wr.cell? ⟨w.heap.size, 0, none⟩ = some (.int .i64 5) := HS.out.cell 0
    by_cases hlt : j < ps.length
    · have hne : ps ≠ [] := by intro e; subst e; simp at hlt
      obtain ⟨b, o, rfl, hDb, hx⟩ := HP.out hne
      obtain ⟨k', u', p', n', c', hv, hcell⟩ := hx j hlt
      have hbw := hD b hDb
      have hB := HS.out.1
      have cc : ∀ i y, (nodeC k' u' (.slice p' n' c'))[i]? = some y → wr.cell? ⟨b, o + j * 6 + i, none⟩ = some y := fun i y hy => by
        rw [hB.cell (p := ⟨b, o + j * 6 + i, none⟩) hbw, ← hcell i y hy, show o + j * 6 + i = o + (6 * j + i) by omega]
      have d0 : wr.cell? ⟨b, o + j * 6, none⟩ = some (.int .i64 k') := cc 0 _ rfl
      have d1 : wr.cell? ⟨b, o + j * 6 + 1, none⟩ = some (.int .u64 (u' 0)) := cc 1 _ rfl
      have d2 : wr.cell? ⟨b, o + j * 6 + 2, none⟩ = some (.int .u64 (u' 1)) := cc 2 _ rfl
      have d3 : wr.cell? ⟨b, o + j * 6 + 3, none⟩ = some (.int .u64 (u' 2)) := cc 3 _ rfl
      have d4 : wr.cell? ⟨b, o + j * 6 + 4, none⟩ = some (.int .u64 (u' 3)) := cc 4 _ rfl
      have d5 : wr.cell? ⟨b, o + j * 6 + 5, none⟩ = some (.slice p' n' c') := cc 5 _ rfl
      have z1 : w.heap.size < wr.heap.size := HS.out.lt
      have z2 : b < wr.heap.size := Nat.lt_of_lt_of_le hbw hB.size
      have HK : Hid (∀ z, Below wr.heap.size wr z → Calls Tryd.prog 55 #[.int .i64 5, .agg (nodeC k' u' (.slice p' n' c'))] z fun e w' => e = .returned (.string (bs (prtX 5 ps[j]))) ∧ Below z.heap.size z w') := Lib.hid fun z hb => by
        have hk : ∀ x, x < w.heap.size → z.heap[x]? = w.heap[x]? := fun x hx => (hb.block x (Nat.lt_of_lt_of_le hx hB.size)).trans (hB.block x hx)
        exact hI.out j hlt _ z (RV.mono (fun b h => h) (fun x hx _ => hk x (hD x hx)) hv) (fun x hx => Nat.lt_of_lt_of_le (hD x hx) (Nat.le_trans hB.size hb.size))
      unfold nodeC at HK
      have hC2 := HC.out
      rw [wrL_drop hlt] at hC2
      have hpx : (bif encB 5 (kindT ps[j]) then [40] ++ wrT ps[j] ++ [41] else wrT ps[j]) = prtX 5 ps[j] := rfl
      rw [hpx] at hC2
      generalize prtX 5 ps[j] = P at *
      have hPl : l.length + P.length + 1 ≤ R.length + 1 := by rw [← hC2]; simp only [List.length_append]; omega
      have hs1 : ¬ 9223372036854775807 < l.length + P.length := by omega
      have hs2 : ¬ 9223372036854775807 < l.length + 1 := by omega
      have hs3 : ¬ 9223372036854775807 < l.length + 1 + P.length := by omega
      have HC2 := Lib.hid hC2
      have hlt' : (j : Int) < (ps.length : Int) := by omega
      clear cc hv hcell hx hB hC2 hpx HC
      go_upto_region 14 with fail
      go_region_held3 (fun w' => w'.cell? ⟨w.heap.size, 0, none⟩ = some (.int .i64 5) ∧ w'.cell? ⟨w.heap.size, 5, none⟩ = some (.slice (some ⟨b, o, none⟩) ps.length c) ∧ w'.cell? ⟨b, o + j * 6, none⟩ = some (.int .i64 k') ∧ w'.cell? ⟨b, o + j * 6 + 1, none⟩ = some (.int .u64 (u' 0)) ∧ w'.cell? ⟨b, o + j * 6 + 2, none⟩ = some (.int .u64 (u' 1)) ∧ w'.cell? ⟨b, o + j * 6 + 3, none⟩ = some (.int .u64 (u' 2)) ∧ w'.cell? ⟨b, o + j * 6 + 4, none⟩ = some (.int .u64 (u' 3)) ∧ w'.cell? ⟨b, o + j * 6 + 5, none⟩ = some (.slice p' n' c') ∧ w.heap.size < w'.heap.size ∧ b < w'.heap.size ∧ Below wr.heap.size wr w')
        (first | assumption | exact ⟨q0, q5, d0, d1, d2, d3, d4, d5, z1, z2, below_drewN (Below.refl _ _) 1⟩ | exact keepO (by assumption) hb)
        (first | (go_at_call 55; refine (HK.out _ (keepO_k (by assumption))).mono ?_; rintro _ wq ⟨rfl, hb⟩))
      rename_i hHeld
      have HS2 := Lib.hid (HS.out.up (keepO_k hHeld))
      clear hHeld hb HK HS q0 q5 d0 d1 d2 d3 d4 d5 z1 z2
      go_wp2_with fail
      go_roundw
      case rel => exact ⟨j + 1, l ++ P, by omega, by go_num, by rw [bs_app], Lib.hid (by have := HC2.out; simp only [List.append_assoc] at this ⊢; cases hd : decide (j = 0) <;> (rw [hd] at this; simpa using this)), HS2⟩
      case measure => simp [intOf]; omega
    · obtain rfl : j = ps.length := by omega
      have hlt' : ¬ ((ps.length : Int) < (ps.length : Int)) := by omega
      have hl2 : l = R := by have := HC.out; rw [List.drop_length, wrL_nil, List.append_nil] at this; exact this
      have hs2 : ¬ 9223372036854775807 < l.length + 1 := by rw [hl2]; omega
      subst hl2
      go_wp2_with fail
      go_ret
      exact ⟨by first | rfl | (rw [← bs_app]; rfl), HS.out.1⟩
set_option maxHeartbeats 8000000 in
theorem told_6 {D : Nat → Prop} {u : Nat → Int} {ps : List RT} {v : Value} {w : World} (hD : ∀ b, D b → b < w.heap.size) (hl : ps.length ≤ 9223372036854775806) (h : RV D w (.mk 6 u ps) v) (hI : Hid (∀ i (hi : i < ps.length) v w, RV D w ps[i] v → (∀ b, D b → b < w.heap.size) → Calls Tryd.prog 55 #[.int .i64 6, v] w fun e w' => e = .returned (.string (bs (prtX 6 ps[i]))) ∧ Below w.heap.size w w')) (hlen : (wrL 6 [] true ps).length ≤ 300000) :
    Calls Tryd.prog 42 #[v] w fun e w' => e = .returned (.string (bs (wrL 6 [] true ps ++ [43]))) ∧ Below w.heap.size w w' := by
  obtain ⟨p, c, rfl, hp⟩ := h.parts
  have HP := Lib.hid hp
  clear h hp
  have S0 := Lib.hid ((Sb.start w).alloc (.cells #[.int .i64 6, .int .u64 (u 0), .int .u64 (u 1), .int .u64 (u 2), .int .u64 (u 3), .slice p ps.length c] 27))
  obtain ⟨R, hR⟩ : ∃ R, wrL 6 [] true ps = R := ⟨_, rfl⟩
  rw [hR]
  rw [hR] at hlen
  have HR := Lib.hid hR
  clear hR
  go_enter Tryd.func42, Tryd.ntmps42
  go_wp2_with fail
  go_loopw [3, 4] (fun s i wr => ∃ (j : Nat) (l : List UInt8), j ≤ ps.length ∧ i = .int .i64 j ∧ s = .string (bs l) ∧ Hid (l ++ wrL 6 [] (decide (j = 0)) (ps.drop j) = R) ∧ Hid (Sb w wr [(w.heap.size, .cells #[.int .i64 6, .int .u64 (u 0), .int .u64 (u 1), .int .u64 (u 2), .int .u64 (u 3), .slice p ps.length c] 27)])) (fun _ i _ => ps.length - (intOf i).toNat)
  case atStart => exact ⟨0, [], by omega, rfl, rfl, HR, S0⟩
  case round =>
    obtain ⟨j, l, hj, rfl, rfl, HC, HS⟩ := hrel
    clear S0 HR
    have q5 : wr.cell? ⟨w.heap.size, 5, none⟩ = some (.slice p ps.length c) := HS.out.cell 5
    have q0 : wr.cell? ⟨w.heap.size, 0, none⟩ = some (.int .i64 6) := HS.out.cell 0
    by_cases hlt : j < ps.length
    · have hne : ps ≠ [] := by intro e; subst e; simp at hlt
      obtain ⟨b, o, rfl, hDb, hx⟩ := HP.out hne
      obtain ⟨k', u', p', n', c', hv, hcell⟩ := hx j hlt
      have hbw := hD b hDb
      have hB := HS.out.1
      have cc : ∀ i y, (nodeC k' u' (.slice p' n' c'))[i]? = some y → wr.cell? ⟨b, o + j * 6 + i, none⟩ = some y := fun i y hy => by
        rw [hB.cell (p := ⟨b, o + j * 6 + i, none⟩) hbw, ← hcell i y hy, show o + j * 6 + i = o + (6 * j + i) by omega]
      have d0 : wr.cell? ⟨b, o + j * 6, none⟩ = some (.int .i64 k') := cc 0 _ rfl
      have d1 : wr.cell? ⟨b, o + j * 6 + 1, none⟩ = some (.int .u64 (u' 0)) := cc 1 _ rfl
      have d2 : wr.cell? ⟨b, o + j * 6 + 2, none⟩ = some (.int .u64 (u' 1)) := cc 2 _ rfl
      have d3 : wr.cell? ⟨b, o + j * 6 + 3, none⟩ = some (.int .u64 (u' 2)) := cc 3 _ rfl
      have d4 : wr.cell? ⟨b, o + j * 6 + 4, none⟩ = some (.int .u64 (u' 3)) := cc 4 _ rfl
      have d5 : wr.cell? ⟨b, o + j * 6 + 5, none⟩ = some (.slice p' n' c') := cc 5 _ rfl
      have z1 : w.heap.size < wr.heap.size := HS.out.lt
      have z2 : b < wr.heap.size := Nat.lt_of_lt_of_le hbw hB.size
      have HK : Hid (∀ z, Below wr.heap.size wr z → Calls Tryd.prog 55 #[.int .i64 6, .agg (nodeC k' u' (.slice p' n' c'))] z fun e w' => e = .returned (.string (bs (prtX 6 ps[j]))) ∧ Below z.heap.size z w') := Lib.hid fun z hb => by
        have hk : ∀ x, x < w.heap.size → z.heap[x]? = w.heap[x]? := fun x hx => (hb.block x (Nat.lt_of_lt_of_le hx hB.size)).trans (hB.block x hx)
        exact hI.out j hlt _ z (RV.mono (fun b h => h) (fun x hx _ => hk x (hD x hx)) hv) (fun x hx => Nat.lt_of_lt_of_le (hD x hx) (Nat.le_trans hB.size hb.size))
      unfold nodeC at HK
      have hC2 := HC.out
      rw [wrL_drop hlt] at hC2
      have hpx : (bif encB 6 (kindT ps[j]) then [40] ++ wrT ps[j] ++ [41] else wrT ps[j]) = prtX 6 ps[j] := rfl
      rw [hpx] at hC2
      generalize prtX 6 ps[j] = P at *
      have hPl : l.length + P.length + 1 ≤ R.length + 1 := by rw [← hC2]; simp only [List.length_append]; omega
      have hs1 : ¬ 9223372036854775807 < l.length + P.length := by omega
      have hs2 : ¬ 9223372036854775807 < l.length + 1 := by omega
      have hs3 : ¬ 9223372036854775807 < l.length + 1 + P.length := by omega
      have HC2 := Lib.hid hC2
      have hlt' : (j : Int) < (ps.length : Int) := by omega
      clear cc hv hcell hx hB hC2 hpx HC
      go_upto_region 14 with fail
      go_region_held3 (fun w' => w'.cell? ⟨w.heap.size, 0, none⟩ = some (.int .i64 6) ∧ w'.cell? ⟨w.heap.size, 5, none⟩ = some (.slice (some ⟨b, o, none⟩) ps.length c) ∧ w'.cell? ⟨b, o + j * 6, none⟩ = some (.int .i64 k') ∧ w'.cell? ⟨b, o + j * 6 + 1, none⟩ = some (.int .u64 (u' 0)) ∧ w'.cell? ⟨b, o + j * 6 + 2, none⟩ = some (.int .u64 (u' 1)) ∧ w'.cell? ⟨b, o + j * 6 + 3, none⟩ = some (.int .u64 (u' 2)) ∧ w'.cell? ⟨b, o + j * 6 + 4, none⟩ = some (.int .u64 (u' 3)) ∧ w'.cell? ⟨b, o + j * 6 + 5, none⟩ = some (.slice p' n' c') ∧ w.heap.size < w'.heap.size ∧ b < w'.heap.size ∧ Below wr.heap.size wr w')
        (first | assumption | exact ⟨q0, q5, d0, d1, d2, d3, d4, d5, z1, z2, below_drewN (Below.refl _ _) 1⟩ | exact keepO (by assumption) hb)
        (first | (go_at_call 55; refine (HK.out _ (keepO_k (by assumption))).mono ?_; rintro _ wq ⟨rfl, hb⟩))
      rename_i hHeld
      have HS2 := Lib.hid (HS.out.up (keepO_k hHeld))
      clear hHeld hb HK HS q0 q5 d0 d1 d2 d3 d4 d5 z1 z2
      go_wp2_with fail
      go_roundw
      case rel => exact ⟨j + 1, l ++ P, by omega, by go_num, by rw [bs_app], Lib.hid (by have := HC2.out; simp only [List.append_assoc] at this ⊢; cases hd : decide (j = 0) <;> (rw [hd] at this; simpa using this)), HS2⟩
      case measure => simp [intOf]; omega
    · obtain rfl : j = ps.length := by omega
      have hlt' : ¬ ((ps.length : Int) < (ps.length : Int)) := by omega
      have hl2 : l = R := by have := HC.out; rw [List.drop_length, wrL_nil, List.append_nil] at this; exact this
      have hs2 : ¬ 9223372036854775807 < l.length + 1 := by rw [hl2]; omega
      subst hl2
      go_wp2_with fail
      go_ret
      exact ⟨by first | rfl | (rw [← bs_app]; rfl), HS.out.1⟩
set_option maxHeartbeats 8000000 in
theorem told_7 {D : Nat → Prop} {u : Nat → Int} {ps : List RT} {v : Value} {w : World} (hD : ∀ b, D b → b < w.heap.size) (hl : ps.length ≤ 9223372036854775806) (h : RV D w (.mk 7 u ps) v) (hI : Hid (∀ i (hi : i < ps.length) v w, RV D w ps[i] v → (∀ b, D b → b < w.heap.size) → Calls Tryd.prog 55 #[.int .i64 7, v] w fun e w' => e = .returned (.string (bs (prtX 7 ps[i]))) ∧ Below w.heap.size w w')) (hlen : (wrL 7 [] true ps).length ≤ 300000) :
    Calls Tryd.prog 42 #[v] w fun e w' => e = .returned (.string (bs (wrL 7 [] true ps ++ [63]))) ∧ Below w.heap.size w w' := by
  obtain ⟨p, c, rfl, hp⟩ := h.parts
  have HP := Lib.hid hp
  clear h hp
  have S0 := Lib.hid ((Sb.start w).alloc (.cells #[.int .i64 7, .int .u64 (u 0), .int .u64 (u 1), .int .u64 (u 2), .int .u64 (u 3), .slice p ps.length c] 27))
  obtain ⟨R, hR⟩ : ∃ R, wrL 7 [] true ps = R := ⟨_, rfl⟩
  rw [hR]
  rw [hR] at hlen
  have HR := Lib.hid hR
  clear hR
  go_enter Tryd.func42, Tryd.ntmps42
  go_wp2_with fail
  go_loopw [3, 4] (fun s i wr => ∃ (j : Nat) (l : List UInt8), j ≤ ps.length ∧ i = .int .i64 j ∧ s = .string (bs l) ∧ Hid (l ++ wrL 7 [] (decide (j = 0)) (ps.drop j) = R) ∧ Hid (Sb w wr [(w.heap.size, .cells #[.int .i64 7, .int .u64 (u 0), .int .u64 (u 1), .int .u64 (u 2), .int .u64 (u 3), .slice p ps.length c] 27)])) (fun _ i _ => ps.length - (intOf i).toNat)
  case atStart => exact ⟨0, [], by omega, rfl, rfl, HR, S0⟩
  case round =>
    obtain ⟨j, l, hj, rfl, rfl, HC, HS⟩ := hrel
    clear S0 HR
    have q5 : wr.cell? ⟨w.heap.size, 5, none⟩ = some (.slice p ps.length c) := HS.out.cell 5
    have q0 : wr.cell? ⟨w.heap.size, 0, none⟩ = some (.int .i64 7) := HS.out.cell 0
    by_cases hlt : j < ps.length
    · have hne : ps ≠ [] := by intro e; subst e; simp at hlt
      obtain ⟨b, o, rfl, hDb, hx⟩ := HP.out hne
      obtain ⟨k', u', p', n', c', hv, hcell⟩ := hx j hlt
      have hbw := hD b hDb
      have hB := HS.out.1
      have cc : ∀ i y, (nodeC k' u' (.slice p' n' c'))[i]? = some y → wr.cell? ⟨b, o + j * 6 + i, none⟩ = some y := fun i y hy => by
        rw [hB.cell (p := ⟨b, o + j * 6 + i, none⟩) hbw, ← hcell i y hy, show o + j * 6 + i = o + (6 * j + i) by omega]
      have d0 : wr.cell? ⟨b, o + j * 6, none⟩ = some (.int .i64 k') := cc 0 _ rfl
      have d1 : wr.cell? ⟨b, o + j * 6 + 1, none⟩ = some (.int .u64 (u' 0)) := cc 1 _ rfl
      have d2 : wr.cell? ⟨b, o + j * 6 + 2, none⟩ = some (.int .u64 (u' 1)) := cc 2 _ rfl
      have d3 : wr.cell? ⟨b, o + j * 6 + 3, none⟩ = some (.int .u64 (u' 2)) := cc 3 _ rfl
      have d4 : wr.cell? ⟨b, o + j * 6 + 4, none⟩ = some (.int .u64 (u' 3)) := cc 4 _ rfl
      have d5 : wr.cell? ⟨b, o + j * 6 + 5, none⟩ = some (.slice p' n' c') := cc 5 _ rfl
      have z1 : w.heap.size < wr.heap.size := HS.out.lt
      have z2 : b < wr.heap.size := Nat.lt_of_lt_of_le hbw hB.size
      have HK : Hid (∀ z, Below wr.heap.size wr z → Calls Tryd.prog 55 #[.int .i64 7, .agg (nodeC k' u' (.slice p' n' c'))] z fun e w' => e = .returned (.string (bs (prtX 7 ps[j]))) ∧ Below z.heap.size z w') := Lib.hid fun z hb => by
        have hk : ∀ x, x < w.heap.size → z.heap[x]? = w.heap[x]? := fun x hx => (hb.block x (Nat.lt_of_lt_of_le hx hB.size)).trans (hB.block x hx)
        exact hI.out j hlt _ z (RV.mono (fun b h => h) (fun x hx _ => hk x (hD x hx)) hv) (fun x hx => Nat.lt_of_lt_of_le (hD x hx) (Nat.le_trans hB.size hb.size))
      unfold nodeC at HK
      have hC2 := HC.out
      rw [wrL_drop hlt] at hC2
      have hpx : (bif encB 7 (kindT ps[j]) then [40] ++ wrT ps[j] ++ [41] else wrT ps[j]) = prtX 7 ps[j] := rfl
      rw [hpx] at hC2
      generalize prtX 7 ps[j] = P at *
      have hPl : l.length + P.length + 1 ≤ R.length + 1 := by rw [← hC2]; simp only [List.length_append]; omega
      have hs1 : ¬ 9223372036854775807 < l.length + P.length := by omega
      have hs2 : ¬ 9223372036854775807 < l.length + 1 := by omega
      have hs3 : ¬ 9223372036854775807 < l.length + 1 + P.length := by omega
      have HC2 := Lib.hid hC2
      have hlt' : (j : Int) < (ps.length : Int) := by omega
      clear cc hv hcell hx hB hC2 hpx HC
      go_upto_region 14 with fail
      go_region_held3 (fun w' => w'.cell? ⟨w.heap.size, 0, none⟩ = some (.int .i64 7) ∧ w'.cell? ⟨w.heap.size, 5, none⟩ = some (.slice (some ⟨b, o, none⟩) ps.length c) ∧ w'.cell? ⟨b, o + j * 6, none⟩ = some (.int .i64 k') ∧ w'.cell? ⟨b, o + j * 6 + 1, none⟩ = some (.int .u64 (u' 0)) ∧ w'.cell? ⟨b, o + j * 6 + 2, none⟩ = some (.int .u64 (u' 1)) ∧ w'.cell? ⟨b, o + j * 6 + 3, none⟩ = some (.int .u64 (u' 2)) ∧ w'.cell? ⟨b, o + j * 6 + 4, none⟩ = some (.int .u64 (u' 3)) ∧ w'.cell? ⟨b, o + j * 6 + 5, none⟩ = some (.slice p' n' c') ∧ w.heap.size < w'.heap.size ∧ b < w'.heap.size ∧ Below wr.heap.size wr w')
        (first | assumption | exact ⟨q0, q5, d0, d1, d2, d3, d4, d5, z1, z2, below_drewN (Below.refl _ _) 1⟩ | exact keepO (by assumption) hb)
        (first | (go_at_call 55; refine (HK.out _ (keepO_k (by assumption))).mono ?_; rintro _ wq ⟨rfl, hb⟩))
      rename_i hHeld
      have HS2 := Lib.hid (HS.out.up (keepO_k hHeld))
      clear hHeld hb HK HS q0 q5 d0 d1 d2 d3 d4 d5 z1 z2
      go_wp2_with fail
      go_roundw
      case rel => exact ⟨j + 1, l ++ P, by omega, by go_num, by rw [bs_app], Lib.hid (by have := HC2.out; simp only [List.append_assoc] at this ⊢; cases hd : decide (j = 0) <;> (rw [hd] at this; simpa using this)), HS2⟩
      case measure => simp [intOf]; omega
    · obtain rfl : j = ps.length := by omega
      have hlt' : ¬ ((ps.length : Int) < (ps.length : Int)) := by omega
      have hl2 : l = R := by have := HC.out; rw [List.drop_length, wrL_nil, List.append_nil] at this; exact this
      have hs2 : ¬ 9223372036854775807 < l.length + 1 := by rw [hl2]; omega
      subst hl2
      go_wp2_with fail
      go_ret
      exact ⟨by first | rfl | (rw [← bs_app]; rfl), HS.out.1⟩
theorem toldr_any {D : Nat → Prop} : ∀ (n : Nat) (t : RT), dep t ≤ n → wid t ≤ 9223372036854775806 → mayB t = true → okT t → (wrT t).length ≤ 300000 → ToldC D t
  | 0, .mk k u ps, hn, _, _, _, _ => by simp [dep] at hn
  | n + 1, .mk k u ps, hn, hw, hm, hok, hlen => Lib.hid fun v w h hD => by
    have h1 : depL ps ≤ n := by simp only [dep] at hn; omega
    obtain ⟨hl, hw2⟩ := wid_mk hw
    rw [mayB, Bool.and_eq_true, Bool.and_eq_true] at hm
    rw [okT] at hok
    have hT : ∀ i (hi : i < ps.length), (wrT ps[i]).length ≤ 300000 → ToldC D ps[i] := fun i hi hz => toldr_any n ps[i] (by have := depL_get ps i hi; omega) (hw2 i hi) (mayL_get ps i hi hm.2) (okL_get ps i hi hok.2) hz
    have hI : ∀ (k : Int) (bt : List UInt8), (wrL k bt true ps).length ≤ 300000 → Hid (∀ i (hi : i < ps.length) v w, RV D w ps[i] v → (∀ b, D b → b < w.heap.size) → Calls Tryd.prog 55 #[.int .i64 k, v] w fun e w' => e = .returned (.string (bs (prtX k ps[i]))) ∧ Below w.heap.size w w') := fun k bt hz => Lib.hid fun i hi v w hv hD' => by
      have hg := wrL_get (k := k) (bt := bt) ps true i hi
      have ht := hT i hi (by omega)
      revert hv ht hg
      cases ps[i] with
      | mk q u' ps' => exact fun hv hg ht => part5_any hD' hv ht (by omega)
    have hk := fits_kind hm.1.1
    rcases hk with rfl | rfl | rfl | rfl | rfl | ⟨rfl, _⟩ | ⟨rfl, _⟩ | ⟨rfl, _⟩
    · rw [wrT_0]; exact told_0 hD hl h
    · rw [wrT_1]; exact told_1 hD hl h
    · rw [wrT_2]; exact told_2 hD hl h (hok.1 rfl)
    · rw [wrT_3] at hlen ⊢; exact told_3 hD hl h (hI 3 [] hlen) hlen
    · rw [wrT_4] at hlen ⊢; exact told_4 hD hl h (hI 4 [124] hlen) hlen
    · rw [wrT_5] at hlen ⊢
      rw [List.length_append] at hlen
      exact told_5 hD hl h (hI 5 [] (by omega)) (by omega)
    · rw [wrT_6] at hlen ⊢
      rw [List.length_append] at hlen
      exact told_6 hD hl h (hI 6 [] (by omega)) (by omega)
    · rw [wrT_7] at hlen ⊢
      rw [List.length_append] at hlen
      exact told_7 hD hl h (hI 7 [] (by omega)) (by omega)
end
section
/- The document's Print; RegsPrints: the walks. -/
theorem toldr_hid {t : RT} (hc : checkE t = 0) (hok : okT t) {D : Nat → Prop} {v : Value} {y : World} (hD : ∀ b, D b → b < y.heap.size) (h : RV D y t v) :
    Hid (∀ z, Below y.heap.size y z → Calls Tryd.prog 42 #[v] z fun e w' => e = .returned (.string (bs (wrT t))) ∧ Below z.heap.size z w') := Lib.hid fun z hb => by
  obtain ⟨hm, hs, hd⟩ := checkE_ok hc
  have hl := wrT_len t
  have hw := wid_sz t
  exact (toldr_any (D := D) (dep t) t (Nat.le_refl _) (by omega) hm hok (by omega)).out v z (RV.mono (fun b h => h) (fun b hb' _ => hb.block b (hD b hb')) h) (fun b hd => Nat.lt_of_lt_of_le (hD b hd) hb.size)
set_option maxHeartbeats 16000000 in
theorem prr_A {t : RT} {w : World} {ka : Int} {ua : Nat → Int} {pa : Option Addr} {na ca : Nat} (hw0 : 0 < w.heap.size) (hT : Tb w) (V1 : RV (fun b => b < w.heap.size) w t (.agg (nodeC ka ua (.slice pa na ca)))) (o1 : okT t) (d1 : wid t ≤ 9223372036854775806) {E : Int} (hE : checkE t = E) (hne : (E != 0) = true) :
    Calls Tryd.prog 26 #[.agg #[.int .i64 ka, .int .u64 (ua 0), .int .u64 (ua 1), .int .u64 (ua 2), .int .u64 (ua 3), .slice pa na ca]] w fun e w' => e = .returned (.tuple #[.string (bs []), .int .i64 E]) ∧ Below w.heap.size w w' := by
  have S1 := Lib.hid ((Below.refl w.heap.size w).alloc (Nat.le_refl _) (.cells #[.int .i64 ka, .int .u64 (ua 0), .int .u64 (ua 1), .int .u64 (ua 2), .int .u64 (ua 3), .slice pa na ca] 27) : Below w.heap.size w _)
  have B1 := Lib.hid (PBox.new (fun b h => h) V1)
  have HT := Lib.hid hT
  unfold nodeC at B1
  clear V1 hT
  go_enter Tryd.func26, Tryd.ntmps26
  go_upto_region 1 with fail
  refine at_world (fun y => Rst w w.heap.size w.heap.size t t y) ⟨B1.out, B1.out, S1.out, HT.out.mono (S1.out.block 0 hw0), by have := S1.out.size; omega⟩ fun y hy => ?_
  have R1 := Lib.hid hy
  clear B1 S1 hy
  obtain ⟨b1, hb1⟩ : ∃ b1, w.heap.size = b1 := ⟨_, rfl⟩
  rw [hb1] at R1
  obtain ⟨k1, u1, p1, n1, c1, ah, av⟩ := R1.out.1
  have a0 : y.cell? ⟨b1, 0, none⟩ = some (.int .i64 k1) := cell_of_row y b1 0 _ 27 (0, 0) ah
  have a1 : y.cell? ⟨b1, 1, none⟩ = some (.int .u64 (u1 0)) := cell_of_row y b1 1 _ 27 (0, 0) ah
  have a2 : y.cell? ⟨b1, 2, none⟩ = some (.int .u64 (u1 1)) := cell_of_row y b1 2 _ 27 (0, 0) ah
  have a3 : y.cell? ⟨b1, 3, none⟩ = some (.int .u64 (u1 2)) := cell_of_row y b1 3 _ 27 (0, 0) ah
  have a4 : y.cell? ⟨b1, 4, none⟩ = some (.int .u64 (u1 3)) := cell_of_row y b1 4 _ 27 (0, 0) ah
  have a5 : y.cell? ⟨b1, 5, none⟩ = some (.slice p1 n1 c1) := cell_of_row y b1 5 _ 27 (0, 0) ah
  have az : b1 < y.heap.size := (Array.getElem?_eq_some_iff.1 ah).1
  have HM := checkr_hid d1 R1.out.2.2.2.2 R1.out.2.2.2.1 av
  rw [hE] at HM
  unfold nodeC at HM
  clear ah av
  go_wp2_with fail
  refine (HM.out _ (Below.refl _ _)).mono ?_
  rintro _ y1 ⟨rfl, hb⟩
  have R' := Lib.hid (R1.out.up hb)
  clear R1 HM hb a0 a1 a2 a3 a4 a5 az
  have R1 := R'
  clear R'
  go_wp2_with fail
  go_ret2
  exact ⟨rfl, R1.out.2.2.1⟩
set_option maxHeartbeats 16000000 in
theorem prr_B {t : RT} {w : World} {ka : Int} {ua : Nat → Int} {pa : Option Addr} {na ca : Nat} (hw0 : 0 < w.heap.size) (hT : Tb w) (V1 : RV (fun b => b < w.heap.size) w t (.agg (nodeC ka ua (.slice pa na ca)))) (o1 : okT t) (d1 : wid t ≤ 9223372036854775806) {R : List UInt8} (hE : checkE t = 0) (hR : wrT t = R) (hl : (256 : Int) < ((R.length : Nat) : Int)) :
    Calls Tryd.prog 26 #[.agg #[.int .i64 ka, .int .u64 (ua 0), .int .u64 (ua 1), .int .u64 (ua 2), .int .u64 (ua 3), .slice pa na ca]] w fun e w' => e = .returned (.tuple #[.string (bs []), .int .i64 3]) ∧ Below w.heap.size w w' := by
  have S1 := Lib.hid ((Below.refl w.heap.size w).alloc (Nat.le_refl _) (.cells #[.int .i64 ka, .int .u64 (ua 0), .int .u64 (ua 1), .int .u64 (ua 2), .int .u64 (ua 3), .slice pa na ca] 27) : Below w.heap.size w _)
  have B1 := Lib.hid (PBox.new (fun b h => h) V1)
  have HT := Lib.hid hT
  unfold nodeC at B1
  clear V1 hT
  go_enter Tryd.func26, Tryd.ntmps26
  go_upto_region 1 with fail
  refine at_world (fun y => Rst w w.heap.size w.heap.size t t y) ⟨B1.out, B1.out, S1.out, HT.out.mono (S1.out.block 0 hw0), by have := S1.out.size; omega⟩ fun y hy => ?_
  have R1 := Lib.hid hy
  clear B1 S1 hy
  obtain ⟨b1, hb1⟩ : ∃ b1, w.heap.size = b1 := ⟨_, rfl⟩
  rw [hb1] at R1
  have hbl : (bs R).size = R.length := rfl
  obtain ⟨k1, u1, p1, n1, c1, ah, av⟩ := R1.out.1
  have a0 : y.cell? ⟨b1, 0, none⟩ = some (.int .i64 k1) := cell_of_row y b1 0 _ 27 (0, 0) ah
  have a1 : y.cell? ⟨b1, 1, none⟩ = some (.int .u64 (u1 0)) := cell_of_row y b1 1 _ 27 (0, 0) ah
  have a2 : y.cell? ⟨b1, 2, none⟩ = some (.int .u64 (u1 1)) := cell_of_row y b1 2 _ 27 (0, 0) ah
  have a3 : y.cell? ⟨b1, 3, none⟩ = some (.int .u64 (u1 2)) := cell_of_row y b1 3 _ 27 (0, 0) ah
  have a4 : y.cell? ⟨b1, 4, none⟩ = some (.int .u64 (u1 3)) := cell_of_row y b1 4 _ 27 (0, 0) ah
  have a5 : y.cell? ⟨b1, 5, none⟩ = some (.slice p1 n1 c1) := cell_of_row y b1 5 _ 27 (0, 0) ah
  have az : b1 < y.heap.size := (Array.getElem?_eq_some_iff.1 ah).1
  have HM := checkr_hid d1 R1.out.2.2.2.2 R1.out.2.2.2.1 av
  rw [hE] at HM
  unfold nodeC at HM
  clear ah av
  go_wp2_with fail
  refine (HM.out _ (Below.refl _ _)).mono ?_
  rintro _ y1 ⟨rfl, hb⟩
  have R' := Lib.hid (R1.out.up hb)
  clear R1 HM hb a0 a1 a2 a3 a4 a5 az
  have R1 := R'
  clear R'
  obtain ⟨k2, u2, p2, n2, c2, ah, av⟩ := R1.out.1
  have a0 : y1.cell? ⟨b1, 0, none⟩ = some (.int .i64 k2) := cell_of_row y1 b1 0 _ 27 (0, 0) ah
  have a1 : y1.cell? ⟨b1, 1, none⟩ = some (.int .u64 (u2 0)) := cell_of_row y1 b1 1 _ 27 (0, 0) ah
  have a2 : y1.cell? ⟨b1, 2, none⟩ = some (.int .u64 (u2 1)) := cell_of_row y1 b1 2 _ 27 (0, 0) ah
  have a3 : y1.cell? ⟨b1, 3, none⟩ = some (.int .u64 (u2 2)) := cell_of_row y1 b1 3 _ 27 (0, 0) ah
  have a4 : y1.cell? ⟨b1, 4, none⟩ = some (.int .u64 (u2 3)) := cell_of_row y1 b1 4 _ 27 (0, 0) ah
  have a5 : y1.cell? ⟨b1, 5, none⟩ = some (.slice p2 n2 c2) := cell_of_row y1 b1 5 _ 27 (0, 0) ah
  have az : b1 < y1.heap.size := (Array.getElem?_eq_some_iff.1 ah).1
  have HM := toldr_hid hE o1 (fun b h => h) av
  rw [hR] at HM
  unfold nodeC at HM
  clear ah av
  go_wp2_with fail
  refine (HM.out _ (Below.refl _ _)).mono ?_
  rintro _ y2 ⟨rfl, hb⟩
  have R' := Lib.hid (R1.out.up hb)
  clear R1 HM hb a0 a1 a2 a3 a4 a5 az
  have R1 := R'
  clear R'
  go_wp2_with fail
  go_ret2
  exact ⟨rfl, R1.out.2.2.1⟩
set_option maxHeartbeats 16000000 in
theorem prr_C {t : RT} {w : World} {ka : Int} {ua : Nat → Int} {pa : Option Addr} {na ca : Nat} (hw0 : 0 < w.heap.size) (hT : Tb w) (V1 : RV (fun b => b < w.heap.size) w t (.agg (nodeC ka ua (.slice pa na ca)))) (o1 : okT t) (d1 : wid t ≤ 9223372036854775806) {R : List UInt8} (hE : checkE t = 0) (hR : wrT t = R) (hl : ¬ (256 : Int) < ((R.length : Nat) : Int)) :
    Calls Tryd.prog 26 #[.agg #[.int .i64 ka, .int .u64 (ua 0), .int .u64 (ua 1), .int .u64 (ua 2), .int .u64 (ua 3), .slice pa na ca]] w fun e w' => e = .returned (.tuple #[.string (bs R), .int .i64 0]) ∧ Below w.heap.size w w' := by
  have S1 := Lib.hid ((Below.refl w.heap.size w).alloc (Nat.le_refl _) (.cells #[.int .i64 ka, .int .u64 (ua 0), .int .u64 (ua 1), .int .u64 (ua 2), .int .u64 (ua 3), .slice pa na ca] 27) : Below w.heap.size w _)
  have B1 := Lib.hid (PBox.new (fun b h => h) V1)
  have HT := Lib.hid hT
  unfold nodeC at B1
  clear V1 hT
  go_enter Tryd.func26, Tryd.ntmps26
  go_upto_region 1 with fail
  refine at_world (fun y => Rst w w.heap.size w.heap.size t t y) ⟨B1.out, B1.out, S1.out, HT.out.mono (S1.out.block 0 hw0), by have := S1.out.size; omega⟩ fun y hy => ?_
  have R1 := Lib.hid hy
  clear B1 S1 hy
  obtain ⟨b1, hb1⟩ : ∃ b1, w.heap.size = b1 := ⟨_, rfl⟩
  rw [hb1] at R1
  have hbl : (bs R).size = R.length := rfl
  obtain ⟨k1, u1, p1, n1, c1, ah, av⟩ := R1.out.1
  have a0 : y.cell? ⟨b1, 0, none⟩ = some (.int .i64 k1) := cell_of_row y b1 0 _ 27 (0, 0) ah
  have a1 : y.cell? ⟨b1, 1, none⟩ = some (.int .u64 (u1 0)) := cell_of_row y b1 1 _ 27 (0, 0) ah
  have a2 : y.cell? ⟨b1, 2, none⟩ = some (.int .u64 (u1 1)) := cell_of_row y b1 2 _ 27 (0, 0) ah
  have a3 : y.cell? ⟨b1, 3, none⟩ = some (.int .u64 (u1 2)) := cell_of_row y b1 3 _ 27 (0, 0) ah
  have a4 : y.cell? ⟨b1, 4, none⟩ = some (.int .u64 (u1 3)) := cell_of_row y b1 4 _ 27 (0, 0) ah
  have a5 : y.cell? ⟨b1, 5, none⟩ = some (.slice p1 n1 c1) := cell_of_row y b1 5 _ 27 (0, 0) ah
  have az : b1 < y.heap.size := (Array.getElem?_eq_some_iff.1 ah).1
  have HM := checkr_hid d1 R1.out.2.2.2.2 R1.out.2.2.2.1 av
  rw [hE] at HM
  unfold nodeC at HM
  clear ah av
  go_wp2_with fail
  refine (HM.out _ (Below.refl _ _)).mono ?_
  rintro _ y1 ⟨rfl, hb⟩
  have R' := Lib.hid (R1.out.up hb)
  clear R1 HM hb a0 a1 a2 a3 a4 a5 az
  have R1 := R'
  clear R'
  obtain ⟨k2, u2, p2, n2, c2, ah, av⟩ := R1.out.1
  have a0 : y1.cell? ⟨b1, 0, none⟩ = some (.int .i64 k2) := cell_of_row y1 b1 0 _ 27 (0, 0) ah
  have a1 : y1.cell? ⟨b1, 1, none⟩ = some (.int .u64 (u2 0)) := cell_of_row y1 b1 1 _ 27 (0, 0) ah
  have a2 : y1.cell? ⟨b1, 2, none⟩ = some (.int .u64 (u2 1)) := cell_of_row y1 b1 2 _ 27 (0, 0) ah
  have a3 : y1.cell? ⟨b1, 3, none⟩ = some (.int .u64 (u2 2)) := cell_of_row y1 b1 3 _ 27 (0, 0) ah
  have a4 : y1.cell? ⟨b1, 4, none⟩ = some (.int .u64 (u2 3)) := cell_of_row y1 b1 4 _ 27 (0, 0) ah
  have a5 : y1.cell? ⟨b1, 5, none⟩ = some (.slice p2 n2 c2) := cell_of_row y1 b1 5 _ 27 (0, 0) ah
  have az : b1 < y1.heap.size := (Array.getElem?_eq_some_iff.1 ah).1
  have HM := toldr_hid hE o1 (fun b h => h) av
  rw [hR] at HM
  unfold nodeC at HM
  clear ah av
  go_wp2_with fail
  refine (HM.out _ (Below.refl _ _)).mono ?_
  rintro _ y2 ⟨rfl, hb⟩
  have R' := Lib.hid (R1.out.up hb)
  clear R1 HM hb a0 a1 a2 a3 a4 a5 az
  have R1 := R'
  clear R'
  go_wp2_with fail
  go_ret2
  exact ⟨rfl, R1.out.2.2.1⟩
theorem printd_any {t : RT} {w : World} {ka : Int} {ua : Nat → Int} {pa : Option Addr} {na ca : Nat} (hw0 : 0 < w.heap.size) (hT : Tb w) (V1 : RV (fun b => b < w.heap.size) w t (.agg (nodeC ka ua (.slice pa na ca)))) (o1 : okT t) (d1 : wid t ≤ 9223372036854775806) :
    Calls Tryd.prog 26 #[.agg #[.int .i64 ka, .int .u64 (ua 0), .int .u64 (ua 1), .int .u64 (ua 2), .int .u64 (ua 3), .slice pa na ca]] w fun e w' => e = .returned (.tuple #[.string (bs (prtP t).1), .int .i64 (prtP t).2]) ∧ Below w.heap.size w w' := by
  unfold prtP
  by_cases hc : checkE t = 0
  · rw [if_neg (by omega)]
    by_cases hl : 256 < (wrT t).length
    · rw [if_pos hl]; exact prr_B (R := wrT t) hw0 hT V1 o1 d1 hc rfl (by omega)
    · rw [if_neg hl]; exact prr_C (R := wrT t) hw0 hT V1 o1 d1 hc rfl (by omega)
  · rw [if_pos hc]; exact prr_A hw0 hT V1 o1 d1 rfl (by rw [bne_iff_ne]; exact hc)
theorem printd_hid {t : RT} (o1 : okT t) (d1 : wid t ≤ 9223372036854775806) {P : List UInt8} {F : Int} (hp : prtP t = (P, F)) {y : World} {ka : Int} {ua : Nat → Int} {pa : Option Addr} {na ca : Nat} (hw0 : 0 < y.heap.size) (hT : Tb y) (h : RV (fun b => b < y.heap.size) y t (.agg (nodeC ka ua (.slice pa na ca)))) :
    Hid (∀ z, Below y.heap.size y z → Calls Tryd.prog 26 #[.agg (nodeC ka ua (.slice pa na ca))] z fun e w' => e = .returned (.tuple #[.string (bs P), .int .i64 F]) ∧ Below z.heap.size z w') := Lib.hid fun z hb => by
  have := printd_any (w := z) (by have := hb.size; omega) (hT.mono (hb.block 0 hw0)) (RV.mono (fun b hl => Nat.lt_of_lt_of_le hl hb.size) (fun b _ hlt => hb.block b hlt) h) o1 d1
  rwa [hp] at this
set_option maxHeartbeats 16000000 in
theorem prints_big {t : RT} {w : World} {ka : Int} {ua : Nat → Int} {pa : Option Addr} {na ca : Nat} (hw0 : 0 < w.heap.size) (hT : Tb w) (V1 : RV (fun b => b < w.heap.size) w t (.agg (nodeC ka ua (.slice pa na ca)))) (o1 : okT t) (d1 : wid t ≤ 9223372036854775806) (q1 : decide (2000 < sz t) = true) (hp : prtP t = ([], 3)) :
    Calls Tryd.prog 5 #[.agg #[.int .i64 ka, .int .u64 (ua 0), .int .u64 (ua 1), .int .u64 (ua 2), .int .u64 (ua 3), .slice pa na ca]] w fun e w' => e = .returned (.bool true) ∧ Below w.heap.size w w' := by
  have S1 := Lib.hid ((Below.refl w.heap.size w).alloc (Nat.le_refl _) (.cells #[.int .i64 ka, .int .u64 (ua 0), .int .u64 (ua 1), .int .u64 (ua 2), .int .u64 (ua 3), .slice pa na ca] 27) : Below w.heap.size w _)
  have B1 := Lib.hid (PBox.new (fun b h => h) V1)
  have HT := Lib.hid hT
  unfold nodeC at B1
  clear V1 hT
  go_enter Tryd.func5, Tryd.ntmps5
  go_upto_region 1 with fail
  refine at_world (fun y => Rst w w.heap.size w.heap.size t t y) ⟨B1.out, B1.out, S1.out, HT.out.mono (S1.out.block 0 hw0), by have := S1.out.size; omega⟩ fun y hy => ?_
  have R1 := Lib.hid hy
  clear B1 S1 hy
  obtain ⟨b1, hb1⟩ : ∃ b1, w.heap.size = b1 := ⟨_, rfl⟩
  rw [hb1] at R1
  obtain ⟨k1, u1, p1, n1, c1, ah, av⟩ := R1.out.1
  have a0 : y.cell? ⟨b1, 0, none⟩ = some (.int .i64 k1) := cell_of_row y b1 0 _ 27 (0, 0) ah
  have a1 : y.cell? ⟨b1, 1, none⟩ = some (.int .u64 (u1 0)) := cell_of_row y b1 1 _ 27 (0, 0) ah
  have a2 : y.cell? ⟨b1, 2, none⟩ = some (.int .u64 (u1 1)) := cell_of_row y b1 2 _ 27 (0, 0) ah
  have a3 : y.cell? ⟨b1, 3, none⟩ = some (.int .u64 (u1 2)) := cell_of_row y b1 3 _ 27 (0, 0) ah
  have a4 : y.cell? ⟨b1, 4, none⟩ = some (.int .u64 (u1 3)) := cell_of_row y b1 4 _ 27 (0, 0) ah
  have a5 : y.cell? ⟨b1, 5, none⟩ = some (.slice p1 n1 c1) := cell_of_row y b1 5 _ 27 (0, 0) ah
  have az : b1 < y.heap.size := (Array.getElem?_eq_some_iff.1 ah).1
  have HM := bigd_hid 2000 q1 (by omega) d1 (fun b h => h) av
  unfold nodeC at HM
  clear ah av
  go_wp2_with fail
  refine (HM.out _ (Below.refl _ _)).mono ?_
  rintro _ y1 ⟨rfl, hb⟩
  have R' := Lib.hid (R1.out.up hb)
  clear R1 HM hb a0 a1 a2 a3 a4 a5 az
  have R1 := R'
  clear R'
  obtain ⟨k2, u2, p2, n2, c2, ah, av⟩ := R1.out.1
  have a0 : y1.cell? ⟨b1, 0, none⟩ = some (.int .i64 k2) := cell_of_row y1 b1 0 _ 27 (0, 0) ah
  have a1 : y1.cell? ⟨b1, 1, none⟩ = some (.int .u64 (u2 0)) := cell_of_row y1 b1 1 _ 27 (0, 0) ah
  have a2 : y1.cell? ⟨b1, 2, none⟩ = some (.int .u64 (u2 1)) := cell_of_row y1 b1 2 _ 27 (0, 0) ah
  have a3 : y1.cell? ⟨b1, 3, none⟩ = some (.int .u64 (u2 2)) := cell_of_row y1 b1 3 _ 27 (0, 0) ah
  have a4 : y1.cell? ⟨b1, 4, none⟩ = some (.int .u64 (u2 3)) := cell_of_row y1 b1 4 _ 27 (0, 0) ah
  have a5 : y1.cell? ⟨b1, 5, none⟩ = some (.slice p2 n2 c2) := cell_of_row y1 b1 5 _ 27 (0, 0) ah
  have az : b1 < y1.heap.size := (Array.getElem?_eq_some_iff.1 ah).1
  have HM := prt_hid o1 d1 hp (fun b h => h) av
  have hbn : bs [] = (⟨#[]⟩ : ByteArray) := rfl
  rw [hbn] at HM
  clear hbn
  unfold nodeC at HM
  clear ah av
  go_wp2_with fail
  refine (HM.out _ (Below.refl _ _)).mono ?_
  rintro _ y2 ⟨rfl, hb⟩
  have R' := Lib.hid (R1.out.up hb)
  clear R1 HM hb a0 a1 a2 a3 a4 a5 az
  have R1 := R'
  clear R'
  have HA := alive_hid R1.out.2.2.2.2 R1.out.2.2.2.1
  go_wp2_with fail
  refine (HA.out _ (Below.refl _ _)).mono ?_
  rintro _ y9 ⟨rfl, hb⟩
  have R8 := Lib.hid (R1.out.up hb)
  clear hb HA R1
  go_wp2
  go_ret
  exact ⟨rfl, R8.out.2.2.1⟩
set_option maxHeartbeats 16000000 in
theorem prints_ok {t : RT} {w : World} {ka : Int} {ua : Nat → Int} {pa : Option Addr} {na ca : Nat} (hw0 : 0 < w.heap.size) (hT : Tb w) (V1 : RV (fun b => b < w.heap.size) w t (.agg (nodeC ka ua (.slice pa na ca)))) (o1 : okT t) (d1 : wid t ≤ 9223372036854775806) (q1 : decide (2000 < sz t) = false) (hw1 : wid t ≤ 1000000) {P : List UInt8} {F : Int} (hp : prtP t = (P, F)) :
    Calls Tryd.prog 5 #[.agg #[.int .i64 ka, .int .u64 (ua 0), .int .u64 (ua 1), .int .u64 (ua 2), .int .u64 (ua 3), .slice pa na ca]] w fun e w' => e = .returned (.bool true) ∧ Below w.heap.size w w' := by
  have S1 := Lib.hid ((Below.refl w.heap.size w).alloc (Nat.le_refl _) (.cells #[.int .i64 ka, .int .u64 (ua 0), .int .u64 (ua 1), .int .u64 (ua 2), .int .u64 (ua 3), .slice pa na ca] 27) : Below w.heap.size w _)
  have B1 := Lib.hid (PBox.new (fun b h => h) V1)
  have HT := Lib.hid hT
  unfold nodeC at B1
  clear V1 hT
  go_enter Tryd.func5, Tryd.ntmps5
  go_upto_region 1 with fail
  refine at_world (fun y => Rst w w.heap.size w.heap.size t t y) ⟨B1.out, B1.out, S1.out, HT.out.mono (S1.out.block 0 hw0), by have := S1.out.size; omega⟩ fun y hy => ?_
  have R1 := Lib.hid hy
  clear B1 S1 hy
  obtain ⟨b1, hb1⟩ : ∃ b1, w.heap.size = b1 := ⟨_, rfl⟩
  rw [hb1] at R1
  obtain ⟨k1, u1, p1, n1, c1, ah, av⟩ := R1.out.1
  have a0 : y.cell? ⟨b1, 0, none⟩ = some (.int .i64 k1) := cell_of_row y b1 0 _ 27 (0, 0) ah
  have a1 : y.cell? ⟨b1, 1, none⟩ = some (.int .u64 (u1 0)) := cell_of_row y b1 1 _ 27 (0, 0) ah
  have a2 : y.cell? ⟨b1, 2, none⟩ = some (.int .u64 (u1 1)) := cell_of_row y b1 2 _ 27 (0, 0) ah
  have a3 : y.cell? ⟨b1, 3, none⟩ = some (.int .u64 (u1 2)) := cell_of_row y b1 3 _ 27 (0, 0) ah
  have a4 : y.cell? ⟨b1, 4, none⟩ = some (.int .u64 (u1 3)) := cell_of_row y b1 4 _ 27 (0, 0) ah
  have a5 : y.cell? ⟨b1, 5, none⟩ = some (.slice p1 n1 c1) := cell_of_row y b1 5 _ 27 (0, 0) ah
  have az : b1 < y.heap.size := (Array.getElem?_eq_some_iff.1 ah).1
  have HM := bigd_hid 2000 q1 (by omega) d1 (fun b h => h) av
  unfold nodeC at HM
  clear ah av
  go_wp2_with fail
  refine (HM.out _ (Below.refl _ _)).mono ?_
  rintro _ y1 ⟨rfl, hb⟩
  have R' := Lib.hid (R1.out.up hb)
  clear R1 HM hb a0 a1 a2 a3 a4 a5 az
  have R1 := R'
  clear R'
  obtain ⟨k1, u1, p1, n1, c1, ah, av⟩ := R1.out.1
  have a0 : y1.cell? ⟨b1, 0, none⟩ = some (.int .i64 k1) := cell_of_row y1 b1 0 _ 27 (0, 0) ah
  have a1 : y1.cell? ⟨b1, 1, none⟩ = some (.int .u64 (u1 0)) := cell_of_row y1 b1 1 _ 27 (0, 0) ah
  have a2 : y1.cell? ⟨b1, 2, none⟩ = some (.int .u64 (u1 1)) := cell_of_row y1 b1 2 _ 27 (0, 0) ah
  have a3 : y1.cell? ⟨b1, 3, none⟩ = some (.int .u64 (u1 2)) := cell_of_row y1 b1 3 _ 27 (0, 0) ah
  have a4 : y1.cell? ⟨b1, 4, none⟩ = some (.int .u64 (u1 3)) := cell_of_row y1 b1 4 _ 27 (0, 0) ah
  have a5 : y1.cell? ⟨b1, 5, none⟩ = some (.slice p1 n1 c1) := cell_of_row y1 b1 5 _ 27 (0, 0) ah
  have az : b1 < y1.heap.size := (Array.getElem?_eq_some_iff.1 ah).1
  have HM := twin_hid hw1 (fun b h => h) av
  unfold nodeC at HM
  clear ah av
  go_wp2_with fail
  refine (HM.out _ (Below.refl _ _)).mono ?_
  rintro _ y2 ⟨⟨v, rfl, ht⟩, hb⟩
  obtain ⟨k, u, p, n, c, rfl⟩ := ht.form2
  have R2 := Lib.hid ((R1.out.up hb).up ((Below.refl _ _).alloc (Nat.le_refl _) (.cells #[.int .i64 k, .int .u64 (u 0), .int .u64 (u 1), .int .u64 (u 2), .int .u64 (u 3), .slice p n c] 27)))
  have TH := Lib.hid (TW.mono (E := fun b => b < (y2.alloc (.cells #[.int .i64 k, .int .u64 (u 0), .int .u64 (u 1), .int .u64 (u 2), .int .u64 (u 3), .slice p n c] 27)).heap.size) (w' := y2.alloc (.cells #[.int .i64 k, .int .u64 (u 0), .int .u64 (u 1), .int .u64 (u 2), .int .u64 (u 3), .slice p n c] 27)) (fun b hb => by simp; omega) (fun b _ hlt => ((Below.refl y2.heap.size y2).alloc (Nat.le_refl _) (.cells #[.int .i64 k, .int .u64 (u 0), .int .u64 (u 1), .int .u64 (u 2), .int .u64 (u 3), .slice p n c] 27)).block b hlt) ht)
  have HX3 := Lib.hid (heap_alloc_last y2 (.cells #[.int .i64 k, .int .u64 (u 0), .int .u64 (u 1), .int .u64 (u 2), .int .u64 (u 3), .slice p n c] 27))
  clear ht hb R1 HM a0 a1 a2 a3 a4 a5 az
  go_upto_region 5 with fail
  refine at_world (fun z => Rst w b1 b1 t t z ∧ TW (fun b => b < z.heap.size) z t (.agg #[.int .i64 k, .int .u64 (u 0), .int .u64 (u 1), .int .u64 (u 2), .int .u64 (u 3), .slice p n c]) ∧ z.heap[y2.heap.size]? = some (.cells #[.int .i64 k, .int .u64 (u 0), .int .u64 (u 1), .int .u64 (u 2), .int .u64 (u 3), .slice p n c] 27)) ⟨R2.out, TH.out, HX3.out⟩ fun z hz => ?_
  obtain ⟨hr, hth, hx3⟩ := hz
  have R1 := Lib.hid hr
  have HT3 := Lib.hid hth
  have HX := Lib.hid hx3
  clear R2 TH HX3 hr hth hx3
  generalize y2.heap.size = b3 at *
  have e0 : z.cell? ⟨b3, 0, none⟩ = some (.int .i64 k) := cell_of_row z b3 0 _ 27 (0, 0) HX.out
  have e1 : z.cell? ⟨b3, 1, none⟩ = some (.int .u64 (u 0)) := cell_of_row z b3 1 _ 27 (0, 0) HX.out
  have e2 : z.cell? ⟨b3, 2, none⟩ = some (.int .u64 (u 1)) := cell_of_row z b3 2 _ 27 (0, 0) HX.out
  have e3 : z.cell? ⟨b3, 3, none⟩ = some (.int .u64 (u 2)) := cell_of_row z b3 3 _ 27 (0, 0) HX.out
  have e4 : z.cell? ⟨b3, 4, none⟩ = some (.int .u64 (u 3)) := cell_of_row z b3 4 _ 27 (0, 0) HX.out
  have e5 : z.cell? ⟨b3, 5, none⟩ = some (.slice p n c) := cell_of_row z b3 5 _ 27 (0, 0) HX.out
  have ez : b3 < z.heap.size := (Array.getElem?_eq_some_iff.1 HX.out).1
  have HM := prt_hid o1 d1 hp (fun b h => h) HT3.out.rv
  go_wp2_with fail
  refine (HM.out _ (Below.refl _ _)).mono ?_
  rintro _ z1 ⟨rfl, hb⟩
  have R' := Lib.hid (R1.out.up hb)
  have HT' := Lib.hid (TW.mono (E := fun b => b < z1.heap.size) (w' := z1) (fun b hl => Nat.lt_of_lt_of_le hl hb.size) (fun b _ hlt => hb.block b hlt) HT3.out)
  have HX' := Lib.hid ((hb.block b3 (Array.getElem?_eq_some_iff.1 HX.out).1).trans HX.out)
  clear R1 HT3 HX HM hb e0 e1 e2 e3 e4 e5 ez
  have R1 := R'
  have HT3 := HT'
  have HX := HX'
  clear R' HT' HX'
  obtain ⟨k2, u2, p2, n2, c2, ah, av⟩ := R1.out.1
  have a0 : z1.cell? ⟨b1, 0, none⟩ = some (.int .i64 k2) := cell_of_row z1 b1 0 _ 27 (0, 0) ah
  have a1 : z1.cell? ⟨b1, 1, none⟩ = some (.int .u64 (u2 0)) := cell_of_row z1 b1 1 _ 27 (0, 0) ah
  have a2 : z1.cell? ⟨b1, 2, none⟩ = some (.int .u64 (u2 1)) := cell_of_row z1 b1 2 _ 27 (0, 0) ah
  have a3 : z1.cell? ⟨b1, 3, none⟩ = some (.int .u64 (u2 2)) := cell_of_row z1 b1 3 _ 27 (0, 0) ah
  have a4 : z1.cell? ⟨b1, 4, none⟩ = some (.int .u64 (u2 3)) := cell_of_row z1 b1 4 _ 27 (0, 0) ah
  have a5 : z1.cell? ⟨b1, 5, none⟩ = some (.slice p2 n2 c2) := cell_of_row z1 b1 5 _ 27 (0, 0) ah
  have az : b1 < z1.heap.size := (Array.getElem?_eq_some_iff.1 ah).1
  have HM := printd_hid o1 d1 hp R1.out.2.2.2.2 R1.out.2.2.2.1 av
  unfold nodeC at HM
  clear ah av
  go_wp2_with fail
  refine (HM.out _ (Below.refl _ _)).mono ?_
  rintro _ z2 ⟨rfl, hb⟩
  have R' := Lib.hid (R1.out.up hb)
  have HT' := Lib.hid (TW.mono (E := fun b => b < z2.heap.size) (w' := z2) (fun b hl => Nat.lt_of_lt_of_le hl hb.size) (fun b _ hlt => hb.block b hlt) HT3.out)
  have HX' := Lib.hid ((hb.block b3 (Array.getElem?_eq_some_iff.1 HX.out).1).trans HX.out)
  clear R1 HT3 HX HM hb a0 a1 a2 a3 a4 a5 az
  have R1 := R'
  have HT3 := HT'
  have HX := HX'
  clear R' HT' HX'
  have e0 : z2.cell? ⟨b3, 0, none⟩ = some (.int .i64 k) := cell_of_row z2 b3 0 _ 27 (0, 0) HX.out
  have e1 : z2.cell? ⟨b3, 1, none⟩ = some (.int .u64 (u 0)) := cell_of_row z2 b3 1 _ 27 (0, 0) HX.out
  have e2 : z2.cell? ⟨b3, 2, none⟩ = some (.int .u64 (u 1)) := cell_of_row z2 b3 2 _ 27 (0, 0) HX.out
  have e3 : z2.cell? ⟨b3, 3, none⟩ = some (.int .u64 (u 2)) := cell_of_row z2 b3 3 _ 27 (0, 0) HX.out
  have e4 : z2.cell? ⟨b3, 4, none⟩ = some (.int .u64 (u 3)) := cell_of_row z2 b3 4 _ 27 (0, 0) HX.out
  have e5 : z2.cell? ⟨b3, 5, none⟩ = some (.slice p n c) := cell_of_row z2 b3 5 _ 27 (0, 0) HX.out
  have ez : b3 < z2.heap.size := (Array.getElem?_eq_some_iff.1 HX.out).1
  obtain ⟨k3, u3, p3, n3, c3, ah, av⟩ := R1.out.1
  have a0 : z2.cell? ⟨b1, 0, none⟩ = some (.int .i64 k3) := cell_of_row z2 b1 0 _ 27 (0, 0) ah
  have a1 : z2.cell? ⟨b1, 1, none⟩ = some (.int .u64 (u3 0)) := cell_of_row z2 b1 1 _ 27 (0, 0) ah
  have a2 : z2.cell? ⟨b1, 2, none⟩ = some (.int .u64 (u3 1)) := cell_of_row z2 b1 2 _ 27 (0, 0) ah
  have a3 : z2.cell? ⟨b1, 3, none⟩ = some (.int .u64 (u3 2)) := cell_of_row z2 b1 3 _ 27 (0, 0) ah
  have a4 : z2.cell? ⟨b1, 4, none⟩ = some (.int .u64 (u3 3)) := cell_of_row z2 b1 4 _ 27 (0, 0) ah
  have a5 : z2.cell? ⟨b1, 5, none⟩ = some (.slice p3 n3 c3) := cell_of_row z2 b1 5 _ 27 (0, 0) ah
  have az : b1 < z2.heap.size := (Array.getElem?_eq_some_iff.1 ah).1
  have HM := left_hid hw1 (fun b h => h) (fun b h => h) HT3.out av
  unfold nodeC at HM
  clear ah av
  go_wp2_with fail
  refine (HM.out _ (Below.refl _ _)).mono ?_
  rintro _ z3 ⟨rfl, hb⟩
  have R' := Lib.hid (R1.out.up hb)
  clear R1 HT3 HX HM hb e0 e1 e2 e3 e4 e5 ez a0 a1 a2 a3 a4 a5 az
  have R1 := R'
  clear R'
  have HA := alive_hid R1.out.2.2.2.2 R1.out.2.2.2.1
  go_wp2_with fail
  refine (HA.out _ (Below.refl _ _)).mono ?_
  rintro _ y9 ⟨rfl, hb⟩
  have R8 := Lib.hid (R1.out.up hb)
  clear hb HA R1
  go_wp2
  go_ret
  exact ⟨rfl, R8.out.2.2.1⟩
theorem prints_any {t : RT} {w : World} {ka : Int} {ua : Nat → Int} {pa : Option Addr} {na ca : Nat} (hw0 : 0 < w.heap.size) (hT : Tb w) (V1 : RV (fun b => b < w.heap.size) w t (.agg (nodeC ka ua (.slice pa na ca)))) (o1 : okT t) (d1 : wid t ≤ 9223372036854775806) :
    Calls Tryd.prog 5 #[.agg #[.int .i64 ka, .int .u64 (ua 0), .int .u64 (ua 1), .int .u64 (ua 2), .int .u64 (ua 3), .slice pa na ca]] w fun e w' => e = .returned (.bool true) ∧ Below w.heap.size w w' := by
  by_cases q : 2000 < sz t
  · exact prints_big hw0 hT V1 o1 d1 (by simpa using q) (by
      have hc : checkE t = 3 := by unfold checkE; rw [if_pos (by omega)]
      unfold prtP
      rw [hc]
      rfl)
  · exact prints_ok hw0 hT V1 o1 d1 (by simpa using q) (by have := wid_sz t; omega) rfl
end
end Go.Proofs.YtmjojahkbjlcdaaDoor
