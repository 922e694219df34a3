/- The document's Print: items, one by one. -/
import Derived.Test.YtennflnfjjhgpaaProg
import Derived.Test.YtennflnfjjhgpaaSm
import Derived.Test.YtennflnfjjhgpaaTxt2
import Derived.Test.YtennflnfjjhgpaaRC
import Derived.WalkKit
import Derived.WalkLawsBesides
import Derived.WalkSpells
import Derived.Outline
import Derived.Lib.Walk
import Derived.Lib.Hide
import Derived.RegionTactic
import Derived.LoopTactic
import Derived.Below
import Derived.IntWalk
import Derived.Lib.Slices
import Derived.Lib.Strings
namespace Go.Proofs.Ytennflnfjjhgpaa
set_option linter.unusedSimpArgs false
set_option linter.unusedVariables false
open Go.RowKit

def EndAt (f : Nat → Bool) (b m : Nat) : Prop := b ≤ m ∧ m < 256 ∧ (∀ j, b ≤ j → j ≤ m → f j = true) ∧ (m + 1 < 256 → f (m + 1) = false)
def Jp (f : Nat → Bool) (b : Nat) : Prop := b < 256 → 0 < b → f (b - 1) = true → f b = true → (∃ R, runsF f b = R ++ [(b - 1, b - 1)]) ∧ ¬ (b + 1 < 256 ∧ f (b + 1) = true)
theorem runs_stretch (f : Nat → Bool) (b : Nat) (hb : b = 0 ∨ f (b - 1) = false) : ∀ d, (∀ j, b ≤ j → j ≤ b + d → f j = true) → runsF f (b + d + 1) = runsF f b ++ [(b, b + d)]
  | 0, h => runs_new f b (h b (Nat.le_refl _) (Nat.le_refl _)) hb
  | d + 1, h => by
    have ih := runs_stretch f b hb d (fun j h1 h2 => h j h1 (by omega))
    exact runs_on f (b + d + 1) (by omega) (h _ (by omega) (by omega)) (h _ (by omega) (by omega)) _ _ ih
theorem items_far (f : Nat → Bool) (b m : Nat) (hJ : Jp f b) (hE : EndAt f b m) (h2 : b + 2 ≤ m) : txt (runsF f (m + 1)) = txt (runsF f b) ++ wn b ++ [45] ++ wn m ∧ Jp f (m + 1) := by
  obtain ⟨h1, hm, hall, hend⟩ := hE
  have hst : b = 0 ∨ f (b - 1) = false := by
    by_cases h0 : b = 0
    · exact .inl h0
    · right
      cases hv : f (b - 1)
      · rfl
      · exact absurd ⟨by omega, hall (b + 1) (by omega) (by omega)⟩ (hJ (by omega) (by omega) hv (hall b (Nat.le_refl _) h1)).2
  obtain ⟨d, rfl⟩ : ∃ d, m = b + d := ⟨m - b, by omega⟩
  rw [runs_stretch f b hst d hall, txt_app, txt_one]
  refine ⟨?_, fun hlt _ _ h => ?_⟩
  · unfold rt
    simp only
    rw [if_neg (by omega), if_neg (by omega)]
    simp
  · rw [hend hlt] at h; exact absurd h (by decide)
theorem items_near (f : Nat → Bool) (b m : Nat) (hJ : Jp f b) (hE : EndAt f b m) (h2 : m < b + 2) : txt (runsF f (b + 1)) = txt (runsF f b) ++ wn b ∧ Jp f (b + 1) := by
  obtain ⟨h1, hm, hall, hend⟩ := hE
  have hfb := hall b (Nat.le_refl _) h1
  by_cases hp : 0 < b ∧ f (b - 1) = true
  · obtain ⟨⟨R, hR⟩, hn⟩ := hJ (by omega) hp.1 hp.2 hfb
    rw [runs_on f b hp.1 hfb hp.2 R (b - 1) hR, hR, txt_app, txt_app, txt_one, txt_one]
    refine ⟨?_, fun hlt _ _ h => absurd ⟨hlt, h⟩ hn⟩
    unfold rt
    simp only
    rw [if_neg (by omega), if_pos (by omega)]
    simp
  · have hst : b = 0 ∨ f (b - 1) = false := by
      by_cases h0 : b = 0
      · exact .inl h0
      · right
        cases hv : f (b - 1)
        · rfl
        · exact absurd ⟨by omega, hv⟩ hp
    rw [runs_new f b hfb hst, txt_app, txt_one]
    refine ⟨by simp [rt], fun hlt _ _ h => ⟨⟨runsF f b, by simpa using runs_new f b hfb hst⟩, ?_⟩⟩
    rintro ⟨h3, h4⟩
    rcases (by omega : m = b ∨ m = b + 1) with rfl | rfl
    · rw [hend hlt] at h; exact absurd h (by decide)
    · rw [hend h3] at h4; exact absurd h4 (by decide)
theorem items_no (f : Nat → Bool) (b : Nat) (h : f b = false) : txt (runsF f (b + 1)) = txt (runsF f b) ∧ Jp f (b + 1) := by
  refine ⟨by rw [runs_no f b h], fun _ _ h1 _ => ?_⟩
  simp at h1
  rw [h] at h1; exact absurd h1 (by decide)
theorem bs_app (l m : List UInt8) : bs l ++ bs m = bs (l ++ m) := by
  apply ByteArray.ext
  rw [ByteArray.data_append]
  simp [bs]
theorem bsz (l : List UInt8) : (bs l).size = l.length := rfl
set_option maxHeartbeats 8000000 in
set_option maxRecDepth 100000 in
theorem items_any (f : Nat → Bool) (w : World) : Calls Try.prog 34 #[.agg (fl f)] w fun e w' => e = .returned (.string (bs (txt (runsF f 256)))) ∧ Below w.heap.size w w' := by
  have S0 := Lib.hid ((Sb.start w).alloc (.cells (fl f) 27))
  go_enter Try.func34, Try.ntmps34
  go_wp2
  go_loopw [3, 4] (fun t i wr => ∃ k : Nat, k ≤ 256 ∧ i = .int .i64 k ∧ t = .string (bs (txt (runsF f k))) ∧ Jp f k ∧ Sb w wr [(w.heap.size, .cells (fl f) 27)]) (fun _ i _ => 256 - (intOf i).toNat)
  case atStart => exact ⟨0, by omega, rfl, rfl, fun _ h => absurd h (by omega), S0.out⟩
  case round =>
    obtain ⟨k, hk, rfl, rfl, hJ, hS⟩ := hrel
    have HS := Lib.hid hS
    have HJ := Lib.hid hJ
    clear hS hJ
    by_cases hlt : k < 256
    · have hlt' : (k : Int) < 256 := by omega
      have hm : (k : Int) % 256 = k := by omega
      have c0 := HS.out.flag k hlt
      have hln := txt_len f k
      have hcl := cnt_le f k
      cases hf : f k
      · rw [hf] at c0
        have HN := Lib.hid (items_no f k hf)
        clear hf
        go_wp2
        go_roundw
        case rel => exact ⟨k + 1, by omega, by go_num, by rw [HN.out.1], HN.out.2, HS.out⟩
        case measure => simp [intOf]; omega
      · rw [hf] at c0
        have HF := Lib.hid hf
        clear hf
        obtain ⟨wo, rfl⟩ : ∃ wo : World, wo = wr := ⟨_, rfl⟩
        go_wp2
        go_loop [5] (fun t => ∃ m : Nat, k ≤ m ∧ m < 256 ∧ t = .int .i64 m ∧ Hid (∀ j, k ≤ j → j ≤ m → f j = true)) (fun t => 256 - (intOf t).toNat)
        case atStart => exact ⟨k, Nat.le_refl _, hlt, rfl, Lib.hid fun j h1 h2 => (show j = k by omega) ▸ HF.out⟩
        case round =>
          obtain ⟨m, hkm, hm256, rfl, hall⟩ := hrel
          by_cases hx : m + 1 < 256
          · have hx' : (m : Int) + 1 < 256 := by omega
            have c1 := HS.out.flag (m + 1) hx
            cases hf1 : f (m + 1)
            · rw [hf1] at c1
              have HE := Lib.hid (show EndAt f k m from ⟨hkm, hm256, hall.out, fun _ => hf1⟩)
              clear hf1 hall
              have hmm : (m : Int) % 256 = m := by omega
              have hbk := Lib.hid (byte_any (UInt8.ofNat k))
              have hbm := Lib.hid (byte_any (UInt8.ofNat m))
              rw [ofNat_toNat k hlt] at hbk
              rw [ofNat_toNat m hm256] at hbm
              have hwk : (bs (wr (UInt8.ofNat k))).size ≤ 2 := (wn_len k).2
              have hwm : (bs (wr (UInt8.ofNat m))).size ≤ 2 := (wn_len m).2
              have ho : (bs (txt (runsF f k))).size ≤ 512 := by rw [bsz]; omega
              by_cases hfar : k + 2 ≤ m
              · have HI := Lib.hid (items_far f k m HJ.out HE.out hfar)
                have hfar' : (2 : Int) ≤ (m : Int) - (k : Int) := by omega
                have heq := Lib.hid (show bs (txt (runsF f k)) ++ bs (wr (UInt8.ofNat k)) ++ bs [45] ++ bs (wr (UInt8.ofNat m)) = bs (txt (runsF f (m + 1))) by rw [bs_app, bs_app, bs_app, HI.out.1]; rfl)
                generalize bs (txt (runsF f k)) = o at *
                generalize bs (wr (UInt8.ofNat k)) = x at *
                generalize bs (wr (UInt8.ofNat m)) = y at *
                have z1 : ¬ 9223372036854775807 < o.size + x.size := by omega
                have z2 : ¬ 9223372036854775807 < (o ++ x).size + 1 := by simp; omega
                have z3 : ¬ 9223372036854775807 < (o ++ x ++ bs [45]).size + y.size := by simp [bsz]; omega
                go_wp2_with fail
                refine (hbk.out _).mono ?_
                rintro _ w3 ⟨rfl, hb⟩
                have HS3 := Lib.hid (HS.out.up hb)
                clear hb c0
                go_wp2_with fail
                refine (hbm.out _).mono ?_
                rintro _ w4 ⟨rfl, hb⟩
                have HS4 := Lib.hid (HS3.out.up hb)
                clear hb
                go_wp2
                go_roundw
                case rel => exact ⟨m + 1, by omega, by go_num, by rw [← heq.out], HI.out.2, HS4.out⟩
                case measure => simp [intOf]; omega
              · have HI := Lib.hid (items_near f k m HJ.out HE.out (by omega))
                have hfar' : ¬ (2 : Int) ≤ (m : Int) - (k : Int) := by omega
                have heq := Lib.hid (show bs (txt (runsF f k)) ++ bs (wr (UInt8.ofNat k)) = bs (txt (runsF f (k + 1))) by rw [bs_app, HI.out.1]; rfl)
                generalize bs (txt (runsF f k)) = o at *
                generalize bs (wr (UInt8.ofNat k)) = x at *
                have z1 : ¬ 9223372036854775807 < o.size + x.size := by omega
                go_wp2_with fail
                refine (hbk.out _).mono ?_
                rintro _ w3 ⟨rfl, hb⟩
                have HS3 := Lib.hid (HS.out.up hb)
                clear hb c0
                go_wp2
                go_roundw
                case rel => exact ⟨k + 1, by omega, by go_num, by rw [← heq.out], HI.out.2, HS3.out⟩
                case measure => simp [intOf]; omega
            · rw [hf1] at c1
              have HF1 := Lib.hid hf1
              clear hf1
              go_wp2
              exact ⟨⟨m + 1, by omega, by omega, by go_num, Lib.hid fun j h1 h2 => by
                by_cases he : j = m + 1
                · subst he; exact HF1.out
                · exact hall.out j h1 (by omega)⟩, by simp [intOf]; omega⟩
          · have hx' : ¬ (m : Int) + 1 < 256 := by omega
            have HE := Lib.hid (show EndAt f k m from ⟨hkm, hm256, hall.out, fun h => absurd h hx⟩)
            have hxd : decide ((m : Int) + 1 < 256) = false := by simpa using hx'
            clear hall
            have hmm : (m : Int) % 256 = m := by omega
            have hbk := Lib.hid (byte_any (UInt8.ofNat k))
            have hbm := Lib.hid (byte_any (UInt8.ofNat m))
            rw [ofNat_toNat k hlt] at hbk
            rw [ofNat_toNat m hm256] at hbm
            have hwk : (bs (wr (UInt8.ofNat k))).size ≤ 2 := (wn_len k).2
            have hwm : (bs (wr (UInt8.ofNat m))).size ≤ 2 := (wn_len m).2
            have ho : (bs (txt (runsF f k))).size ≤ 512 := by rw [bsz]; omega
            by_cases hfar : k + 2 ≤ m
            · have HI := Lib.hid (items_far f k m HJ.out HE.out hfar)
              have hfar' : (2 : Int) ≤ (m : Int) - (k : Int) := by omega
              have heq := Lib.hid (show bs (txt (runsF f k)) ++ bs (wr (UInt8.ofNat k)) ++ bs [45] ++ bs (wr (UInt8.ofNat m)) = bs (txt (runsF f (m + 1))) by rw [bs_app, bs_app, bs_app, HI.out.1]; rfl)
              generalize bs (txt (runsF f k)) = o at *
              generalize bs (wr (UInt8.ofNat k)) = x at *
              generalize bs (wr (UInt8.ofNat m)) = y at *
              have z1 : ¬ 9223372036854775807 < o.size + x.size := by omega
              have z2 : ¬ 9223372036854775807 < (o ++ x).size + 1 := by simp; omega
              have z3 : ¬ 9223372036854775807 < (o ++ x ++ bs [45]).size + y.size := by simp [bsz]; omega
              go_wp2_with fail
              refine (hbk.out _).mono ?_
              rintro _ w3 ⟨rfl, hb⟩
              have HS3 := Lib.hid (HS.out.up hb)
              clear hb c0
              go_wp2_with fail
              refine (hbm.out _).mono ?_
              rintro _ w4 ⟨rfl, hb⟩
              have HS4 := Lib.hid (HS3.out.up hb)
              clear hb
              go_wp2
              go_roundw
              case rel => exact ⟨m + 1, by omega, by go_num, by rw [← heq.out], HI.out.2, HS4.out⟩
              case measure => simp [intOf]; omega
            · have HI := Lib.hid (items_near f k m HJ.out HE.out (by omega))
              have hfar' : ¬ (2 : Int) ≤ (m : Int) - (k : Int) := by omega
              have heq := Lib.hid (show bs (txt (runsF f k)) ++ bs (wr (UInt8.ofNat k)) = bs (txt (runsF f (k + 1))) by rw [bs_app, HI.out.1]; rfl)
              generalize bs (txt (runsF f k)) = o at *
              generalize bs (wr (UInt8.ofNat k)) = x at *
              have z1 : ¬ 9223372036854775807 < o.size + x.size := by omega
              go_wp2_with fail
              refine (hbk.out _).mono ?_
              rintro _ w3 ⟨rfl, hb⟩
              have HS3 := Lib.hid (HS.out.up hb)
              clear hb c0
              go_wp2
              go_roundw
              case rel => exact ⟨k + 1, by omega, by go_num, by rw [← heq.out], HI.out.2, HS3.out⟩
              case measure => simp [intOf]; omega
    · obtain rfl : k = 256 := by omega
      go_wp2
      go_ret
      exact ⟨rfl, HS.out.1⟩
end Go.Proofs.Ytennflnfjjhgpaa
