/- The document's Class, a class that begins: the sign of the rest. -/
import Derived.Test.YtennflnfjjhgpaaProg
import Derived.Test.YtennflnfjjhgpaaOne
import Derived.Test.YtennflnfjjhgpaaPs
import Derived.WalkKit
import Derived.WalkLawsBesides
import Derived.WalkSpells
import Derived.Outline
import Derived.Lib.Walk
import Derived.Lib.Hide
import Derived.RegionTactic
import Derived.LoopTactic
import Derived.Below
import Derived.IntWalk
import Derived.Lib.Slices
import Derived.Lib.Strings
import Derived.Deep.LoopGhost
import Derived.Laws.Tables
import Derived.Test.YtennflnfjjhgpaaCd
namespace Go.Proofs.Ytennflnfjjhgpaa
set_option linter.unusedSimpArgs false
set_option linter.unusedVariables false
open Go.RowKit

set_option maxHeartbeats 16000000 in
set_option maxRecDepth 100000 in
theorem class_t (s : ByteArray) (hs : s.size ≤ 140737488355328) (h0s : 0 < s.size) (h91 : s[0] = 91) (h1s : 1 < s.size) (hv1 : s[1] = 94) (hW : WholeC s true (bd (s.data.toList.drop 2) fun _ => false)) (w : World) :
    Calls Try.prog 37 #[.string s, .int .i64 0] w (ClsP s w) := by
  have S0 := Lib.hid (((Sb.start w).alloc (.cells (fl fun _ => false) 27)).alloc (.cells (fl fun _ => false) 27))
  have e1 : (w.alloc (.cells (fl fun _ => false) 27)).heap.size = w.heap.size + 1 := by simp
  rw [e1] at S0
  clear e1
  have hz := zero27
  obtain ⟨R, hR⟩ : ∃ R, bd (s.data.toList.drop 2) (fun _ => false) = R := ⟨_, rfl⟩
  rw [hR] at hW
  have HW := Lib.hid hW
  have HR := Lib.hid hR
  clear hW hR
  have q0 : ((s[0].toNat : Int) != 91) = false := by rw [h91]; rfl
  have q0' : ((s[0].toNat : Int) == 91) = true := by rw [h91]; rfl
  have hlt0 : (0 : Int) < (s.size : Int) := by omega
  have hd0 : decide ((0 : Int) ≥ (s.size : Int)) = false := by rw [decide_eq_false_iff_not]; omega
  have hd0' : ¬ s.size ≤ 0 := by omega
  have hse : ¬ s = ByteArray.empty := fun e => by rw [e] at h0s; exact absurd h0s (by decide)
  clear h91
  have key : ∀ (wa : World), Sb w wa (CL w fun _ => false) → True := fun _ _ => trivial
  clear key
  have q1 : ((s[1].toNat : Int) == 94) = true := by rw [hv1]; rfl
  have h1s' : (1 : Int) < (s.size : Int) := by omega
  clear hv1
  go_enter Try.func37, Try.ntmps37
  go_wp2_with fail
  go_loopg [1] (s.size + 1) (fun g x wr => ∃ n f, s.size < g + n ∧ n ≤ s.size ∧ x = .int .i64 (n : Nat) ∧ bd (s.data.toList.drop n) f = R ∧ Sb w wr (CL w f))
  case atStart => exact ⟨2, _, by omega, by omega, rfl, HR.out, S0.out⟩
  case round =>
    obtain ⟨n, f, hg, hns, rfl, hbd, hS⟩ := hrel
    obtain ⟨gj, rfl⟩ : ∃ gj, gk = gj + 1 := ⟨gk - 1, by omega⟩
    have HS := Lib.hid hS
    clear hS HR S0
    by_cases hlt : n < s.size
    · have hlt' : (n : Int) < (s.size : Int) := by omega
      have hda := drop_at s n hlt
      by_cases h93 : s[n] = 93
      · have HCS := Lib.hid (HW.out.2 f (s.data.toList.drop (n + 1)) (by rw [← hbd, hda, h93]; exact bd_end _ _))
        have qn : ((s[n].toNat : Int) != 93) = false := by rw [h93]; rfl
        have qn' : ((s[n].toNat : Int) == 93) = true := by rw [h93]; rfl
        have hge : ¬ s.size ≤ n := by omega
        clear hda h93 hbd HW
        obtain ⟨wo, rfl⟩ : ∃ wo : World, wo = wr := ⟨_, rfl⟩
        go_wp2
        go_loopw [15] (fun i wz => ∃ k : Nat, k ≤ 256 ∧ i = .int .i64 k ∧ Sb w wz (CL w (flip f k))) (fun i _ => 256 - (intOf i).toNat)
        case atStart => exact ⟨0, by omega, rfl, by rw [flip_zero]; exact HS.out⟩
        case round =>
          obtain ⟨k, hk, rfl, hS⟩ := hrel
          have HF := Lib.hid hS
          clear hS
          by_cases hk2 : k < 256
          · have hk2' : (k : Int) < 256 := by omega
            have cf := HF.out.flag k hk2
            rw [flip_get] at cf
            have ff := HF.out.free k
            have zf := HF.out.lt
            have hset := Lib.hid (flip_set f k)
            generalize f k = vv at cf hset
            go_wp2
            go_roundw
            case rel => exact ⟨k + 1, by omega, by go_num, by unfold CL; rw [← hset.out]; exact HF.out.set _ (by simp)⟩
            case measure => simp [intOf]; omega
          · obtain rfl : k = 256 := by omega
            unfold CL at HF
            rw [flip_all] at HF
            have h1 := Lib.hid HF.out.heap
            have h0 := Lib.hid HF.out.tl.heap
            have HE := Lib.hid (HF.out.swap.setRow (cs' := fl (noF f)) (by simp))
            clear hk2 hk
            go_wp2_with (first | (refine wpList_load_row rfl 27 (.tmp 7) rfl (w.heap.size + 1) rfl 27 (fl (noF f)) (0, 0) _ h1.out Try.underlying27 rfl (fsize27 _) ?_) | (refine wpList_store_row rfl 27 (.tmp 4) (.tmp 127) rfl w.heap.size (fl (noF f)) rfl rfl 27 _ h0.out (fsize27 _) (by rw [fl_size, fl_size]) (fl_one _) ?_))
            (try simp only [Exit.inBlock, Exit.then])
            refine bodyPost_ret (v := .tuple #[.agg (fl (noF f)), .int .i64 ((n : Int) + 1), .bool true]) (res_cls rfl _ _ w.heap.size (noF f) _ _ rfl HE.out.heap rfl rfl) rfl (ClsP.some (n + 1) HCS.out HE.out.1 (by omega) rfl)
      · have qn : ((s[n].toNat : Int) == 93) = false := neqU _ 93 (by omega) h93
        have qn2 : ((s[n].toNat : Int) != 93) = true := by rw [bne, qn]; rfl
        have ho := Lib.hid (one_any s n hs hns)
        cases hon : one (s.data.toList.drop n) with
        | none =>
          have hit : itm (s.data.toList.drop n) = none := by unfold itm; rw [hon]
          have HCN := Lib.hid (HW.out.1 (by rw [← hbd, hda]; exact bd_bad _ _ _ h93 (by rw [← hda]; exact hit)))
          clear hda h93 hbd HW hit
          go_wp2_with fail
          refine (ho.out _).mono ?_
          rintro _ w3 ⟨hb, hrest⟩
          rw [hon] at hrest
          obtain ⟨c, m, rfl⟩ := hrest
          have HS3 := Lib.hid (HS.out.up hb)
          clear hb ho hon
          unfold one3
          have hbad := Lib.hid (bad_any s n hs hns)
          go_wp2_with (refine wpList_zero27 rfl rfl ?_)
          refine (hbad.out _).mono ?_
          rintro _ _ ⟨bn, rfl, rfl⟩
          have h0 := Lib.hid HS3.out.tl.heap
          have HE := Lib.hid (HS3.out.swap.setRow (cs' := fl fun _ => false) (by simp))
          go_wp2_with (refine wpList_store_row rfl 27 (.tmp 4) (.tmp 62) rfl w.heap.size (fl fun _ => false) rfl rfl 27 _ h0.out (fsize27 _) rfl (fl_one _) ?_)
          (try simp only [Exit.inBlock, Exit.then])
          refine bodyPost_ret (v := .tuple #[.agg (fl fun _ => false), .int .i64 bn, .bool false]) (res_cls rfl _ _ w.heap.size (fun _ => false) _ _ rfl HE.out.heap rfl rfl) rfl (ClsP.none HCN.out HE.out.1 _ rfl)
        | some p =>
          obtain ⟨a, q⟩ := p
          have HON := Lib.hid hon
          clear hon
          go_wp2_with fail
          refine (ho.out _).mono ?_
          rintro _ w3 ⟨hb, hrest⟩
          rw [HON.out] at hrest
          obtain ⟨m, hnm, hms, hq, rfl⟩ := hrest
          have HS3 := Lib.hid (HS.out.up hb)
          clear hb ho HS
          unfold one3
          have ha := a.toNat_lt
          by_cases hmx : ∃ h : m < s.size, s[m] = 45
          · obtain ⟨hm2, h45⟩ := hmx
            have hm2' : (m : Int) < (s.size : Int) := by omega
            have qm : ((s[m].toNat : Int) == 45) = true := by rw [h45]; rfl
            have hdm := drop_at s m hm2
            rw [h45] at hdm
            clear h45
            have ho2 := Lib.hid (one_any s (m + 1) hs (by omega))
            rw [show ((m + 1 : Nat) : Int) = (m : Int) + 1 from rfl] at ho2
            cases hon2 : one (s.data.toList.drop (m + 1)) with
            | none =>
              have hit : itm (s.data.toList.drop n) = none := by unfold itm; rw [HON.out, hq, hdm]; simp [hon2]
              have HCN := Lib.hid (HW.out.1 (by rw [← hbd, hda]; exact bd_bad _ _ _ h93 (by rw [← hda]; exact hit)))
              clear hda h93 hbd HW hit hdm hq HON
              go_wp2_with fail
              refine (ho2.out _).mono ?_
              rintro _ w4 ⟨hb, hrest⟩
              rw [hon2] at hrest
              obtain ⟨c, m', rfl⟩ := hrest
              have HS4 := Lib.hid (HS3.out.up hb)
              clear hb ho2 hon2 HS3
              unfold one3
              have hbad := Lib.hid (bad_any s (m + 1) hs (by omega))
              rw [show ((m + 1 : Nat) : Int) = (m : Int) + 1 from rfl] at hbad
              go_wp2_with (refine wpList_zero27 rfl rfl ?_)
              refine (hbad.out _).mono ?_
              rintro _ _ ⟨bn, rfl, rfl⟩
              have h0 := Lib.hid HS4.out.tl.heap
              have HE := Lib.hid (HS4.out.swap.setRow (cs' := fl fun _ => false) (by simp))
              go_wp2_with (refine wpList_store_row rfl 27 (.tmp 4) (.tmp 88) rfl w.heap.size (fl fun _ => false) rfl rfl 27 _ h0.out (fsize27 _) rfl (fl_one _) ?_)
              (try simp only [Exit.inBlock, Exit.then])
              refine bodyPost_ret (v := .tuple #[.agg (fl fun _ => false), .int .i64 bn, .bool false]) (res_cls rfl _ _ w.heap.size (fun _ => false) _ _ rfl HE.out.heap rfl rfl) rfl (ClsP.none HCN.out HE.out.1 _ rfl)
            | some p2 =>
              obtain ⟨b, q2⟩ := p2
              have HON2 := Lib.hid hon2
              clear hon2
              go_wp2_with fail
              refine (ho2.out _).mono ?_
              rintro _ w4 ⟨hb, hrest⟩
              rw [HON2.out] at hrest
              obtain ⟨m2, hnm2, hms2, hq2, rfl⟩ := hrest
              have HS4 := Lib.hid (HS3.out.up hb)
              clear hb ho2 HS3
              unfold one3
              have hbl := b.toNat_lt
              by_cases hab : a.toNat ≤ b.toNat
              · have habU : a ≤ b := by rw [UInt8.le_iff_toNat_le]; exact hab
                have hit : itm (s.data.toList.drop n) = some (a, b, s.data.toList.drop m2) := by unfold itm; rw [HON.out, hq, hdm]; simp [HON2.out, habU, hq2]
                have HNX := Lib.hid (show bd (s.data.toList.drop m2) (orF f (body.rangeG a b)) = R by rw [← hbd, hda]; exact (bd_item _ _ f h93 a b _ (by rw [← hda]; exact hit)).symm)
                clear hda h93 hbd hit hdm hq HON HON2 hq2
                have hlx : ¬ (b.toNat : Int) < (a.toNat : Int) := by omega
                have hlx' : ¬ b.toNat < a.toNat := by omega
                obtain ⟨wo, rfl⟩ : ∃ wo : World, wo = w4 := ⟨_, rfl⟩
                go_wp2
                go_loopw [14] (fun i wz => ∃ k : Nat, a.toNat ≤ k ∧ k ≤ b.toNat + 1 ∧ i = .int .i64 k ∧ Sb w wz [(w.heap.size + 1, .cells (fl (part f a.toNat k)) 27), (w.heap.size, .cells (fl fun _ => false) 27)]) (fun i _ => b.toNat + 1 - (intOf i).toNat)
                case atStart => exact ⟨a.toNat, Nat.le_refl _, by omega, rfl, by rw [part_zero]; exact HS4.out⟩
                case round =>
                  obtain ⟨k, hk1, hk2, rfl, hS⟩ := hrel
                  have HF := Lib.hid hS
                  clear hS
                  by_cases hkb : k ≤ b.toNat
                  · have hkb' : (k : Int) ≤ (b.toNat : Int) := by omega
                    have hk256 : k < 256 := by omega
                    have cf := HF.out.flag k hk256
                    have ff := HF.out.free k
                    have zf := HF.out.lt
                    have hset := Lib.hid (part_set f a.toNat k hk1)
                    go_wp2
                    go_roundw
                    case rel => exact ⟨k + 1, by omega, by omega, by go_num, by rw [← hset.out]; exact HF.out.set _ (by simp)⟩
                    case measure => simp [intOf]; omega
                  · obtain rfl : k = b.toNat + 1 := by omega
                    have hfl := Lib.hid (part_all f a b hab)
                    have hkb' : ¬ ((b.toNat + 1 : Nat) : Int) ≤ (b.toNat : Int) := by omega
                    go_wp2
                    go_roundg gj
                    case rel => exact ⟨m2, orF f (body.rangeG a b), by omega, by omega, by go_num, HNX.out, by unfold CL; rw [← hfl.out]; exact HF.out⟩
                    case measure => omega
              · have habU : ¬ a ≤ b := by rw [UInt8.le_iff_toNat_le]; exact hab
                have hit : itm (s.data.toList.drop n) = none := by unfold itm; rw [HON.out, hq, hdm]; simp [HON2.out, habU]
                have HCN := Lib.hid (HW.out.1 (by rw [← hbd, hda]; exact bd_bad _ _ _ h93 (by rw [← hda]; exact hit)))
                clear hda h93 hbd HW hit hdm hq HON HON2 hq2
                have hlx : (b.toNat : Int) < (a.toNat : Int) := by omega
                have hlx' : b.toNat < a.toNat := by omega
                have h0 := Lib.hid HS4.out.tl.heap
                have HE := Lib.hid (HS4.out.swap.setRow (cs' := fl fun _ => false) (by simp))
                go_wp2_with (first | (refine wpList_zero27 rfl rfl ?_) | (refine wpList_store_row rfl 27 (.tmp 4) (.tmp 95) rfl w.heap.size (fl fun _ => false) rfl rfl 27 _ h0.out (fsize27 _) rfl (fl_one _) ?_))
                (try simp only [Exit.inBlock, Exit.then])
                refine bodyPost_ret (v := .tuple #[.agg (fl fun _ => false), .int .i64 ((m2 : Nat) - 1 : Int), .bool false]) (res_cls rfl _ _ w.heap.size (fun _ => false) _ _ rfl HE.out.heap rfl rfl) rfl (ClsP.none HCN.out HE.out.1 _ rfl)
          · have hit : itm (s.data.toList.drop n) = some (a, a, s.data.toList.drop m) := by
              unfold itm; rw [HON.out, hq]
              by_cases hm2 : m < s.size
              · have hdm := drop_at s m hm2
                rw [hdm]; simp [show s[m] ≠ 45 from fun e => hmx ⟨hm2, e⟩]
              · rw [drop_end s m (by omega)]
            have HNX := Lib.hid (show bd (s.data.toList.drop m) (orF f (body.rangeG a a)) = R by rw [← hbd, hda]; exact (bd_item _ _ f h93 a a _ (by rw [← hda]; exact hit)).symm)
            clear hda h93 hbd hit hq HON
            have hab : a.toNat ≤ a.toNat := Nat.le_refl _
            by_cases hm2 : m < s.size
            · have hm2' : (m : Int) < (s.size : Int) := by omega
              have qm : ((s[m].toNat : Int) == 45) = false := neqU _ 45 (by omega) (fun e => hmx ⟨hm2, e⟩)
              clear hmx
              obtain ⟨wo, rfl⟩ : ∃ wo : World, wo = w3 := ⟨_, rfl⟩
              go_wp2
              go_loopw [14] (fun i wz => ∃ k : Nat, a.toNat ≤ k ∧ k ≤ a.toNat + 1 ∧ i = .int .i64 k ∧ Sb w wz [(w.heap.size + 1, .cells (fl (part f a.toNat k)) 27), (w.heap.size, .cells (fl fun _ => false) 27)]) (fun i _ => a.toNat + 1 - (intOf i).toNat)
              case atStart => exact ⟨a.toNat, Nat.le_refl _, by omega, rfl, by rw [part_zero]; exact HS3.out⟩
              case round =>
                obtain ⟨k, hk1, hk2, rfl, hS⟩ := hrel
                have HF := Lib.hid hS
                clear hS
                by_cases hkb : k ≤ a.toNat
                · have hkb' : (k : Int) ≤ (a.toNat : Int) := by omega
                  have hk256 : k < 256 := by omega
                  have cf := HF.out.flag k hk256
                  have ff := HF.out.free k
                  have zf := HF.out.lt
                  have hset := Lib.hid (part_set f a.toNat k hk1)
                  go_wp2
                  go_roundw
                  case rel => exact ⟨k + 1, by omega, by omega, by go_num, by rw [← hset.out]; exact HF.out.set _ (by simp)⟩
                  case measure => simp [intOf]; omega
                · obtain rfl : k = a.toNat + 1 := by omega
                  have hfl := Lib.hid (part_all f a a hab)
                  have hkb' : ¬ ((a.toNat + 1 : Nat) : Int) ≤ (a.toNat : Int) := by omega
                  go_wp2
                  go_roundg gj
                  case rel => exact ⟨m, orF f (body.rangeG a a), by omega, by omega, by go_num, HNX.out, by unfold CL; rw [← hfl.out]; exact HF.out⟩
                  case measure => omega
            · have hm2' : ¬ (m : Int) < (s.size : Int) := by omega
              have hdm2 : decide ((m : Int) < (s.size : Int)) = false := by simpa using hm2'
              clear hmx
              obtain ⟨wo, rfl⟩ : ∃ wo : World, wo = w3 := ⟨_, rfl⟩
              go_wp2
              go_loopw [14] (fun i wz => ∃ k : Nat, a.toNat ≤ k ∧ k ≤ a.toNat + 1 ∧ i = .int .i64 k ∧ Sb w wz [(w.heap.size + 1, .cells (fl (part f a.toNat k)) 27), (w.heap.size, .cells (fl fun _ => false) 27)]) (fun i _ => a.toNat + 1 - (intOf i).toNat)
              case atStart => exact ⟨a.toNat, Nat.le_refl _, by omega, rfl, by rw [part_zero]; exact HS3.out⟩
              case round =>
                obtain ⟨k, hk1, hk2, rfl, hS⟩ := hrel
                have HF := Lib.hid hS
                clear hS
                by_cases hkb : k ≤ a.toNat
                · have hkb' : (k : Int) ≤ (a.toNat : Int) := by omega
                  have hk256 : k < 256 := by omega
                  have cf := HF.out.flag k hk256
                  have ff := HF.out.free k
                  have zf := HF.out.lt
                  have hset := Lib.hid (part_set f a.toNat k hk1)
                  go_wp2
                  go_roundw
                  case rel => exact ⟨k + 1, by omega, by omega, by go_num, by rw [← hset.out]; exact HF.out.set _ (by simp)⟩
                  case measure => simp [intOf]; omega
                · obtain rfl : k = a.toNat + 1 := by omega
                  have hfl := Lib.hid (part_all f a a hab)
                  have hkb' : ¬ ((a.toNat + 1 : Nat) : Int) ≤ (a.toNat : Int) := by omega
                  go_wp2
                  go_roundg gj
                  case rel => exact ⟨m, orF f (body.rangeG a a), by omega, by omega, by go_num, HNX.out, by unfold CL; rw [← hfl.out]; exact HF.out⟩
                  case measure => omega
    · obtain rfl : n = s.size := by omega
      have HCN := Lib.hid (HW.out.1 (by rw [← hbd, drop_end s s.size (Nat.le_refl _)]; exact bd_nil f))
      clear hbd HW
      have h0 := Lib.hid HS.out.tl.heap
      have HE := Lib.hid (HS.out.swap.setRow (cs' := fl fun _ => false) (by simp))
      go_wp2_with (first | (refine wpList_zero27 rfl rfl ?_) | (refine wpList_store_row rfl 27 (.tmp 4) (.tmp 113) rfl w.heap.size (fl fun _ => false) rfl rfl 27 _ h0.out (fsize27 _) rfl (fl_one _) ?_))
      (try simp only [Exit.inBlock, Exit.then])
      refine bodyPost_ret (v := .tuple #[.agg (fl fun _ => false), .int .i64 (s.size : Nat), .bool false]) (res_cls rfl _ _ w.heap.size (fun _ => false) _ _ rfl HE.out.heap rfl rfl) rfl (ClsP.none HCN.out HE.out.1 _ rfl)
end Go.Proofs.Ytennflnfjjhgpaa
