import Derived.Deep.LoopGhost
import Derived.Laws.Tables
import Derived.Lib.Slices
import Derived.Lib.Strings
import Derived.Test.YtmjojahkbjlcdaaDoorProg
import Derived.Test.YtmjojahkbjlcdaaDoorY3
import Derived.Test.YtmjojahkbjlcdaaDoorY4
import Derived.WalkKit
import Derived.WalkLawsBesides
import Derived.WalkSpells
import Derived.Outline
import Derived.Lib.Walk
import Derived.Lib.Hide
import Derived.RegionTactic
import Derived.LoopTactic
import Derived.Below
import Derived.IntWalk
import Derived.Deep.QuietTactic
import Derived.BigQuiet
import Derived.Test.YtmjojahkbjlcdaaDoorY10
namespace Go.Proofs.YtmjojahkbjlcdaaDoor
set_option linter.unusedSimpArgs false
set_option linter.unusedVariables false
set_option maxRecDepth 100000
open Go.RowKit

/- The document's Class, at any place of a text. -/
theorem drop_len (s : ByteArray) (n : Nat) : (s.data.toList.drop n).length = s.size - n := by
  rw [List.length_drop]; rfl
/-- What Class answers: C where the class ends, R what it says. -/
def DclP (s : ByteArray) (v : Bool) (C : Except (List UInt8) (Unit × List UInt8)) (R : Option ((Nat → Bool) × List UInt8)) (w : World) (e : Ending) (w' : World) : Prop := Below w.heap.size w w' ∧
  match C with
  | .error q => e = cls3 (fun _ => false) ((s.size : Int) - (q.length : Nat)) false
  | .ok (_, t) => ∃ g, R = some (g, t) ∧ e = cls3 (if v then noF g else g) ((s.size : Int) - (t.length : Nat)) true
theorem DclP.none {s : ByteArray} {v : Bool} {C : Except (List UInt8) (Unit × List UInt8)} {R : Option ((Nat → Bool) × List UInt8)} {w w' : World} {e : Ending} {q : List UInt8} {n : Int} (h : C = .error q) (hb : Below w.heap.size w w') (hn : n = (s.size : Int) - (q.length : Nat)) (he : e = cls3 (fun _ => false) n false) : DclP s v C R w e w' := by
  subst h; subst hn; exact ⟨hb, he⟩
theorem DclP.some {s : ByteArray} {v : Bool} {C : Except (List UInt8) (Unit × List UInt8)} {R : Option ((Nat → Bool) × List UInt8)} {w w' : World} {e : Ending} {t : List UInt8} {g : Nat → Bool} {n : Int} (h : C = .ok ((), t)) (hR : R = Option.some (g, t)) (hb : Below w.heap.size w w') (hn : n = (s.size : Int) - (t.length : Nat)) (he : e = cls3 (if v then noF g else g) n true) : DclP s v C R w e w' := by
  subst h; subst hn; exact ⟨hb, g, hR, he⟩
def Bad5 (s : ByteArray) (n : Nat) (w : World) (e : Ending) (w' : World) : Prop := ∃ m : Nat, (m : Int) = (s.size : Int) - ((badL (s.data.toList.drop n)).length : Nat) ∧ e = .returned (.int .i64 m) ∧ w = w'
theorem bad5_any (s : ByteArray) (n : Nat) (hs : s.size ≤ 140737488355328) (hn : n ≤ s.size) (w : World) : Calls Tryd.prog 101 #[.string s, .int .i64 n] w (Bad5 s n w) := by
  by_cases h1 : s.size ≤ n
  · have hq : decide ((n : Int) < (s.size : Int)) = false := by simpa using h1
    have hq' : ¬ n < s.size := by omega
    have HL : Hid ((n : Int) = (s.size : Int) - ((badL (s.data.toList.drop n)).length : Nat)) := Lib.hid (by rw [drop_end s n h1]; simp [badL]; omega)
    go_enter Tryd.func101, Tryd.ntmps101
    go_wp2
    go_ret
    exact ⟨n, HL.out, rfl, rfl⟩
  · have hlt : n < s.size := by omega
    have hd := drop_at s n hlt
    have hl := drop_len s (n + 1)
    cases hc : ((s[n].toNat : Int) == 92)
    · have HL : Hid ((n : Int) = (s.size : Int) - ((badL (s.data.toList.drop n)).length : Nat)) := Lib.hid (by
        have hne : s[n] ≠ 92 := by intro e; rw [e] at hc; exact absurd hc (by decide)
        rw [hd]; unfold badL
        rw [if_neg (by simpa using hne), List.length_cons, hl]; omega)
      clear hd hl
      go_enter Tryd.func101, Tryd.ntmps101
      go_wp2
      go_ret
      exact ⟨n, HL.out, rfl, rfl⟩
    · have HL : Hid (((n + 1 : Nat) : Int) = (s.size : Int) - ((badL (s.data.toList.drop n)).length : Nat)) := Lib.hid (by
        have he : s[n] = 92 := by
          have h0 : (s[n].toNat : Int) = 92 := by simpa using hc
          exact UInt8.toNat_inj.1 (by have : s[n].toNat = 92 := by omega
                                      rw [this]; rfl)
        rw [hd, he]; unfold badL
        rw [List.head?_cons, if_pos rfl, List.tail_cons, hl]; omega)
      clear hd hl
      go_enter Tryd.func101, Tryd.ntmps101
      go_wp2
      go_ret
      exact ⟨n + 1, HL.out, rfl, rfl⟩
set_option maxHeartbeats 16000000 in
set_option maxRecDepth 100000 in
theorem dclass_f1 (s : ByteArray) (p0 : Nat) (hs : s.size ≤ 140737488355328) (h0s : p0 < s.size) (h91 : s[p0] = 91) (h1s : p0 + 1 < s.size) (hv1 : s[p0 + 1] ≠ 94) (w : World) :
    Calls Tryd.prog 85 #[.string s, .int .i64 (p0 : Nat)] w (DclP s false (clw (s.data.toList.drop (p0 + 1))) (bd (s.data.toList.drop (p0 + 1)) fun _ => false) w) := by
  have S0 := Lib.hid (((Sb.start w).alloc (.cells (fl fun _ => false) 94)).alloc (.cells (fl fun _ => false) 94))
  have e1 : (w.alloc (.cells (fl fun _ => false) 94)).heap.size = w.heap.size + 1 := by simp
  rw [e1] at S0
  clear e1
  have hz := zero27
  obtain ⟨R, hR⟩ : ∃ R, bd (s.data.toList.drop (p0 + 1)) (fun _ => false) = R := ⟨_, rfl⟩
  obtain ⟨C, hC⟩ : ∃ C, clw (s.data.toList.drop (p0 + 1)) = C := ⟨_, rfl⟩
  rw [hR, hC]
  have HCC := Lib.hid hC
  have HR := Lib.hid hR
  clear hC hR
  have q0 : ((s[p0].toNat : Int) != 91) = false := by rw [h91]; rfl
  have q0' : ((s[p0].toNat : Int) == 91) = true := by rw [h91]; rfl
  have hlt0 : (p0 : Int) < (s.size : Int) := by omega
  have hd0 : decide ((p0 : Int) ≥ (s.size : Int)) = false := by rw [decide_eq_false_iff_not]; omega
  have hd0' : ¬ s.size ≤ p0 := by omega
  have hse : ¬ s = ByteArray.empty := fun e => (by have h : s.size = 0 := (by rw [e]; rfl); omega)
  clear h91
  have q1 : ((s[p0 + 1].toNat : Int) == 94) = false := neqU _ 94 (by omega) hv1
  have h1s' : (p0 : Int) + 1 < (s.size : Int) := by omega
  clear hv1
  go_enter Tryd.func85, Tryd.ntmps85
  go_wp2_with fail
  go_loopg [1] (s.size + 1) (fun g x wr => ∃ n f, s.size < g + n ∧ n ≤ s.size ∧ x = .int .i64 (n : Nat) ∧ bd (s.data.toList.drop n) f = R ∧ clw (s.data.toList.drop n) = C ∧ Sb w wr (CL w f))
  case atStart => exact ⟨p0 + 1, _, by omega, by omega, by go_num, HR.out, HCC.out, S0.out⟩
  case round =>
    obtain ⟨n, f, hg, hns, rfl, hbd, hcl, hS⟩ := hrel
    obtain ⟨gj, rfl⟩ : ∃ gj, gk = gj + 1 := ⟨gk - 1, by omega⟩
    have HS := Lib.hid hS
    clear hS HR HCC S0
    by_cases hlt : n < s.size
    · have hlt' : (n : Int) < (s.size : Int) := by omega
      have hda := drop_at s n hlt
      by_cases h93 : s[n] = 93
      · have HCS := Lib.hid (⟨by rw [← hcl, hda, h93]; exact clw_end _, by rw [← hbd, hda, h93]; exact bd_end _ _⟩ : C = .ok ((), s.data.toList.drop (n + 1)) ∧ R = Option.some (f, s.data.toList.drop (n + 1)))
        have qn : ((s[n].toNat : Int) != 93) = false := by rw [h93]; rfl
        have qn' : ((s[n].toNat : Int) == 93) = true := by rw [h93]; rfl
        have hge : ¬ s.size ≤ n := by omega
        clear hda h93 hbd hcl
        have h1 := Lib.hid HS.out.heap
        have h0 := Lib.hid HS.out.tl.heap
        have HE := Lib.hid (HS.out.swap.setRow (cs' := fl f) (by simp))
        go_wp2_with (first | (refine wpList_load_row rfl 94 (.tmp 7) rfl (w.heap.size + 1) rfl 94 (fl f) (0, 0) _ h1.out Tryd.underlying94 rfl (fsize27 _) ?_) | (refine wpList_store_row rfl 94 (.tmp 4) (.tmp 127) rfl w.heap.size (fl f) rfl rfl 94 _ h0.out (fsize27 _) (by rw [fl_size, fl_size]) (fl_one _) ?_))
        (try simp only [Exit.inBlock, Exit.then])
        refine bodyPost_ret (v := .tuple #[.agg (fl f), .int .i64 ((n : Int) + 1), .bool true]) (res_cls rfl _ _ w.heap.size f _ _ rfl HE.out.heap rfl rfl) rfl (DclP.some HCS.out.1 HCS.out.2 HE.out.1 (by rw [drop_len]; omega) rfl)
      · have qn : ((s[n].toNat : Int) == 93) = false := neqU _ 93 (by omega) h93
        have qn2 : ((s[n].toNat : Int) != 93) = true := by rw [bne, qn]; rfl
        have h93' : (s.data.toList.drop n).head? ≠ some 93 := by rw [hda]; simpa using h93
        have ho := Lib.hid (one_any s n hs hns)
        cases hon : one (s.data.toList.drop n) with
        | none =>
          have HCN : Hid (C = .error (badL (s.data.toList.drop n))) := Lib.hid (by rw [← hcl]; exact clw_bad h93' (itl_n hon))
          clear hda h93 h93' hbd hcl
          go_wp2_with fail
          refine (ho.out _).mono ?_
          rintro _ w3 ⟨hb, hrest⟩
          rw [hon] at hrest
          obtain ⟨c, m, rfl⟩ := hrest
          have HS3 := Lib.hid (HS.out.up hb)
          clear hb ho hon
          unfold one3
          have hbad := Lib.hid (bad5_any s n hs hns)
          go_wp2_with (refine wpList_zero27 rfl rfl ?_)
          refine (hbad.out _).mono ?_
          rintro _ _ ⟨bn, hbn, rfl, rfl⟩
          have HBN := Lib.hid hbn
          clear hbn
          have h0 := Lib.hid HS3.out.tl.heap
          have HE := Lib.hid (HS3.out.swap.setRow (cs' := fl fun _ => false) (by simp))
          go_wp2_with (refine wpList_store_row rfl 94 (.tmp 4) (.tmp 62) rfl w.heap.size (fl fun _ => false) rfl rfl 94 _ h0.out (fsize27 _) rfl (fl_one _) ?_)
          (try simp only [Exit.inBlock, Exit.then])
          refine bodyPost_ret (v := .tuple #[.agg (fl fun _ => false), .int .i64 bn, .bool false]) (res_cls rfl _ _ w.heap.size (fun _ => false) _ _ rfl HE.out.heap rfl rfl) rfl (DclP.none HCN.out HE.out.1 HBN.out rfl)
        | some p =>
          obtain ⟨a, q⟩ := p
          have HON := Lib.hid hon
          clear hon
          go_wp2_with fail
          refine (ho.out _).mono ?_
          rintro _ w3 ⟨hb, hrest⟩
          rw [HON.out] at hrest
          obtain ⟨m, hnm, hms, hq, rfl⟩ := hrest
          have HS3 := Lib.hid (HS.out.up hb)
          clear hb ho HS
          unfold one3
          have ha := a.toNat_lt
          by_cases hmx : ∃ h : m < s.size, s[m] = 45
          · obtain ⟨hm2, h45⟩ := hmx
            have hm2' : (m : Int) < (s.size : Int) := by omega
            have qm : ((s[m].toNat : Int) == 45) = true := by rw [h45]; rfl
            have hdm := drop_at s m hm2
            rw [h45] at hdm
            clear h45
            have ho2 := Lib.hid (one_any s (m + 1) hs (by omega))
            rw [show ((m + 1 : Nat) : Int) = (m : Int) + 1 from rfl] at ho2
            cases hon2 : one (s.data.toList.drop (m + 1)) with
            | none =>
              have HCN : Hid (C = .error (badL (s.data.toList.drop (m + 1)))) := Lib.hid (by rw [← hcl]; exact clw_bad h93' (itl_n2 (by rw [HON.out, hq, hdm]) hon2))
              clear hda h93 h93' hbd hcl hdm hq HON
              go_wp2_with fail
              refine (ho2.out _).mono ?_
              rintro _ w4 ⟨hb, hrest⟩
              rw [hon2] at hrest
              obtain ⟨c, m', rfl⟩ := hrest
              have HS4 := Lib.hid (HS3.out.up hb)
              clear hb ho2 hon2 HS3
              unfold one3
              have hbad := Lib.hid (bad5_any s (m + 1) hs (by omega))
              rw [show ((m + 1 : Nat) : Int) = (m : Int) + 1 from rfl] at hbad
              go_wp2_with (refine wpList_zero27 rfl rfl ?_)
              refine (hbad.out _).mono ?_
              rintro _ _ ⟨bn, hbn, rfl, rfl⟩
              have HBN := Lib.hid hbn
              clear hbn
              have h0 := Lib.hid HS4.out.tl.heap
              have HE := Lib.hid (HS4.out.swap.setRow (cs' := fl fun _ => false) (by simp))
              go_wp2_with (refine wpList_store_row rfl 94 (.tmp 4) (.tmp 88) rfl w.heap.size (fl fun _ => false) rfl rfl 94 _ h0.out (fsize27 _) rfl (fl_one _) ?_)
              (try simp only [Exit.inBlock, Exit.then])
              refine bodyPost_ret (v := .tuple #[.agg (fl fun _ => false), .int .i64 bn, .bool false]) (res_cls rfl _ _ w.heap.size (fun _ => false) _ _ rfl HE.out.heap rfl rfl) rfl (DclP.none HCN.out HE.out.1 HBN.out rfl)
            | some p2 =>
              obtain ⟨b, q2⟩ := p2
              have HON2 := Lib.hid hon2
              clear hon2
              go_wp2_with fail
              refine (ho2.out _).mono ?_
              rintro _ w4 ⟨hb, hrest⟩
              rw [HON2.out] at hrest
              obtain ⟨m2, hnm2, hms2, hq2, rfl⟩ := hrest
              have HS4 := Lib.hid (HS3.out.up hb)
              clear hb ho2 HS3
              unfold one3
              have hbl := b.toNat_lt
              by_cases hab : a.toNat ≤ b.toNat
              · have habU : a ≤ b := by rw [UInt8.le_iff_toNat_le]; exact hab
                have hit : itm (s.data.toList.drop n) = some (a, b, s.data.toList.drop m2) := by unfold itm; rw [HON.out, hq, hdm]; simp [HON2.out, habU, hq2]
                have HNX := Lib.hid (show bd (s.data.toList.drop m2) (orF f (body.rangeG a b)) = R by rw [← hbd, hda]; exact (bd_item _ _ f h93 a b _ (by rw [← hda]; exact hit)).symm)
                have HNC : Hid (clw (s.data.toList.drop m2) = C) := Lib.hid (by rw [← hcl]; exact (clw_item h93' (itl_y (by rw [HON.out, hq, hdm]) (by rw [HON2.out, hq2]) habU)).symm)
                clear hda h93 h93' hbd hcl hit hdm hq HON HON2 hq2
                have hlx : ¬ (b.toNat : Int) < (a.toNat : Int) := by omega
                have hlx' : ¬ b.toNat < a.toNat := by omega
                obtain ⟨wo, rfl⟩ : ∃ wo : World, wo = w4 := ⟨_, rfl⟩
                go_wp2
                go_loopw [14] (fun i wz => ∃ k : Nat, a.toNat ≤ k ∧ k ≤ b.toNat + 1 ∧ i = .int .i64 k ∧ Sb w wz [(w.heap.size + 1, .cells (fl (partF f a.toNat k)) 94), (w.heap.size, .cells (fl fun _ => false) 94)]) (fun i _ => b.toNat + 1 - (intOf i).toNat)
                case atStart => exact ⟨a.toNat, Nat.le_refl _, by omega, rfl, by rw [part_zero]; exact HS4.out⟩
                case round =>
                  obtain ⟨k, hk1, hk2, rfl, hS⟩ := hrel
                  have HF := Lib.hid hS
                  clear hS
                  by_cases hkb : k ≤ b.toNat
                  · have hkb' : (k : Int) ≤ (b.toNat : Int) := by omega
                    have hk256 : k < 256 := by omega
                    have cf := HF.out.flag k hk256
                    have ff := HF.out.free k
                    have zf := HF.out.lt
                    have hset := Lib.hid (part_set f a.toNat k hk1)
                    go_wp2
                    go_roundw
                    case rel => exact ⟨k + 1, by omega, by omega, by go_num, by rw [← hset.out]; exact HF.out.set _ (by simp)⟩
                    case measure => simp [intOf]; omega
                  · obtain rfl : k = b.toNat + 1 := by omega
                    have hfl := Lib.hid (part_all f a b hab)
                    have hkb' : ¬ ((b.toNat + 1 : Nat) : Int) ≤ (b.toNat : Int) := by omega
                    go_wp2
                    go_roundg gj
                    case rel => exact ⟨m2, orF f (body.rangeG a b), by omega, by omega, by go_num, HNX.out, HNC.out, by unfold CL; rw [← hfl.out]; exact HF.out⟩
                    case measure => omega
              · have habU : ¬ a ≤ b := by rw [UInt8.le_iff_toNat_le]; exact hab
                have HCN : Hid (∃ c, C = .error (c :: s.data.toList.drop m2)) := Lib.hid (by
                  obtain ⟨c, hz⟩ := itl_z (l := s.data.toList.drop n) (by rw [HON.out, hq, hdm]) (by rw [HON2.out, hq2]) habU
                  exact ⟨c, by rw [← hcl]; exact clw_bad h93' hz⟩)
                obtain ⟨cz, hcz⟩ := HCN.out
                have HCZ := Lib.hid hcz
                clear hda h93 h93' hbd hcl hdm hq HON HON2 hq2 HCN hcz
                have hlx : (b.toNat : Int) < (a.toNat : Int) := by omega
                have hlx' : b.toNat < a.toNat := by omega
                have h0 := Lib.hid HS4.out.tl.heap
                have HE := Lib.hid (HS4.out.swap.setRow (cs' := fl fun _ => false) (by simp))
                go_wp2_with (first | (refine wpList_zero27 rfl rfl ?_) | (refine wpList_store_row rfl 94 (.tmp 4) (.tmp 95) rfl w.heap.size (fl fun _ => false) rfl rfl 94 _ h0.out (fsize27 _) rfl (fl_one _) ?_))
                (try simp only [Exit.inBlock, Exit.then])
                refine bodyPost_ret (v := .tuple #[.agg (fl fun _ => false), .int .i64 ((m2 : Nat) - 1 : Int), .bool false]) (res_cls rfl _ _ w.heap.size (fun _ => false) _ _ rfl HE.out.heap rfl rfl) rfl (DclP.none HCZ.out HE.out.1 (by rw [List.length_cons, drop_len]; omega) rfl)
          · have hit : itm (s.data.toList.drop n) = some (a, a, s.data.toList.drop m) := by
              unfold itm; rw [HON.out, hq]
              by_cases hm2 : m < s.size
              · have hdm := drop_at s m hm2
                rw [hdm]; simp [show s[m] ≠ 45 from fun e => hmx ⟨hm2, e⟩]
              · rw [drop_end s m (by omega)]
            have HNX := Lib.hid (show bd (s.data.toList.drop m) (orF f (body.rangeG a a)) = R by rw [← hbd, hda]; exact (bd_item _ _ f h93 a a _ (by rw [← hda]; exact hit)).symm)
            have HNC : Hid (clw (s.data.toList.drop m) = C) := Lib.hid (by
              rw [← hcl]
              refine (clw_item h93' (itl_x (by rw [HON.out, hq]) ?_)).symm
              by_cases hm2 : m < s.size
              · rw [drop_at s m hm2]; simp only [List.head?_cons, ne_eq, Option.some.injEq]; exact fun e => hmx ⟨hm2, e⟩
              · rw [drop_end s m (by omega)]; simp)
            clear hda h93 h93' hbd hcl hit hq HON
            have hab : a.toNat ≤ a.toNat := Nat.le_refl _
            by_cases hm2 : m < s.size
            · have hm2' : (m : Int) < (s.size : Int) := by omega
              have qm : ((s[m].toNat : Int) == 45) = false := neqU _ 45 (by omega) (fun e => hmx ⟨hm2, e⟩)
              clear hmx
              obtain ⟨wo, rfl⟩ : ∃ wo : World, wo = w3 := ⟨_, rfl⟩
              go_wp2
              go_loopw [14] (fun i wz => ∃ k : Nat, a.toNat ≤ k ∧ k ≤ a.toNat + 1 ∧ i = .int .i64 k ∧ Sb w wz [(w.heap.size + 1, .cells (fl (partF f a.toNat k)) 94), (w.heap.size, .cells (fl fun _ => false) 94)]) (fun i _ => a.toNat + 1 - (intOf i).toNat)
              case atStart => exact ⟨a.toNat, Nat.le_refl _, by omega, rfl, by rw [part_zero]; exact HS3.out⟩
              case round =>
                obtain ⟨k, hk1, hk2, rfl, hS⟩ := hrel
                have HF := Lib.hid hS
                clear hS
                by_cases hkb : k ≤ a.toNat
                · have hkb' : (k : Int) ≤ (a.toNat : Int) := by omega
                  have hk256 : k < 256 := by omega
                  have cf := HF.out.flag k hk256
                  have ff := HF.out.free k
                  have zf := HF.out.lt
                  have hset := Lib.hid (part_set f a.toNat k hk1)
                  go_wp2
                  go_roundw
                  case rel => exact ⟨k + 1, by omega, by omega, by go_num, by rw [← hset.out]; exact HF.out.set _ (by simp)⟩
                  case measure => simp [intOf]; omega
                · obtain rfl : k = a.toNat + 1 := by omega
                  have hfl := Lib.hid (part_all f a a hab)
                  have hkb' : ¬ ((a.toNat + 1 : Nat) : Int) ≤ (a.toNat : Int) := by omega
                  go_wp2
                  go_roundg gj
                  case rel => exact ⟨m, orF f (body.rangeG a a), by omega, by omega, by go_num, HNX.out, HNC.out, by unfold CL; rw [← hfl.out]; exact HF.out⟩
                  case measure => omega
            · have hm2' : ¬ (m : Int) < (s.size : Int) := by omega
              have hdm2 : decide ((m : Int) < (s.size : Int)) = false := by simpa using hm2'
              clear hmx
              obtain ⟨wo, rfl⟩ : ∃ wo : World, wo = w3 := ⟨_, rfl⟩
              go_wp2
              go_loopw [14] (fun i wz => ∃ k : Nat, a.toNat ≤ k ∧ k ≤ a.toNat + 1 ∧ i = .int .i64 k ∧ Sb w wz [(w.heap.size + 1, .cells (fl (partF f a.toNat k)) 94), (w.heap.size, .cells (fl fun _ => false) 94)]) (fun i _ => a.toNat + 1 - (intOf i).toNat)
              case atStart => exact ⟨a.toNat, Nat.le_refl _, by omega, rfl, by rw [part_zero]; exact HS3.out⟩
              case round =>
                obtain ⟨k, hk1, hk2, rfl, hS⟩ := hrel
                have HF := Lib.hid hS
                clear hS
                by_cases hkb : k ≤ a.toNat
                · have hkb' : (k : Int) ≤ (a.toNat : Int) := by omega
                  have hk256 : k < 256 := by omega
                  have cf := HF.out.flag k hk256
                  have ff := HF.out.free k
                  have zf := HF.out.lt
                  have hset := Lib.hid (part_set f a.toNat k hk1)
                  go_wp2
                  go_roundw
                  case rel => exact ⟨k + 1, by omega, by omega, by go_num, by rw [← hset.out]; exact HF.out.set _ (by simp)⟩
                  case measure => simp [intOf]; omega
                · obtain rfl : k = a.toNat + 1 := by omega
                  have hfl := Lib.hid (part_all f a a hab)
                  have hkb' : ¬ ((a.toNat + 1 : Nat) : Int) ≤ (a.toNat : Int) := by omega
                  go_wp2
                  go_roundg gj
                  case rel => exact ⟨m, orF f (body.rangeG a a), by omega, by omega, by go_num, HNX.out, HNC.out, by unfold CL; rw [← hfl.out]; exact HF.out⟩
                  case measure => omega
    · obtain rfl : n = s.size := by omega
      have HCN : Hid (C = .error []) := Lib.hid (by rw [← hcl, drop_end s s.size (Nat.le_refl _)]; rfl)
      clear hbd hcl
      have h0 := Lib.hid HS.out.tl.heap
      have HE := Lib.hid (HS.out.swap.setRow (cs' := fl fun _ => false) (by simp))
      go_wp2_with (first | (refine wpList_zero27 rfl rfl ?_) | (refine wpList_store_row rfl 94 (.tmp 4) (.tmp 113) rfl w.heap.size (fl fun _ => false) rfl rfl 94 _ h0.out (fsize27 _) rfl (fl_one _) ?_))
      (try simp only [Exit.inBlock, Exit.then])
      refine bodyPost_ret (v := .tuple #[.agg (fl fun _ => false), .int .i64 (s.size : Nat), .bool false]) (res_cls rfl _ _ w.heap.size (fun _ => false) _ _ rfl HE.out.heap rfl rfl) rfl (DclP.none HCN.out HE.out.1 (by simp) rfl)
set_option maxHeartbeats 16000000 in
set_option maxRecDepth 100000 in
theorem dclass_f2 (s : ByteArray) (p0 : Nat) (hs : s.size ≤ 140737488355328) (h0s : p0 < s.size) (h91 : s[p0] = 91) (h1s : ¬ p0 + 1 < s.size) (w : World) :
    Calls Tryd.prog 85 #[.string s, .int .i64 (p0 : Nat)] w (DclP s false (clw (s.data.toList.drop (p0 + 1))) (bd (s.data.toList.drop (p0 + 1)) fun _ => false) w) := by
  have S0 := Lib.hid (((Sb.start w).alloc (.cells (fl fun _ => false) 94)).alloc (.cells (fl fun _ => false) 94))
  have e1 : (w.alloc (.cells (fl fun _ => false) 94)).heap.size = w.heap.size + 1 := by simp
  rw [e1] at S0
  clear e1
  have hz := zero27
  obtain ⟨R, hR⟩ : ∃ R, bd (s.data.toList.drop (p0 + 1)) (fun _ => false) = R := ⟨_, rfl⟩
  obtain ⟨C, hC⟩ : ∃ C, clw (s.data.toList.drop (p0 + 1)) = C := ⟨_, rfl⟩
  rw [hR, hC]
  have HCC := Lib.hid hC
  have HR := Lib.hid hR
  clear hC hR
  have q0 : ((s[p0].toNat : Int) != 91) = false := by rw [h91]; rfl
  have q0' : ((s[p0].toNat : Int) == 91) = true := by rw [h91]; rfl
  have hlt0 : (p0 : Int) < (s.size : Int) := by omega
  have hd0 : decide ((p0 : Int) ≥ (s.size : Int)) = false := by rw [decide_eq_false_iff_not]; omega
  have hd0' : ¬ s.size ≤ p0 := by omega
  have hse : ¬ s = ByteArray.empty := fun e => (by have h : s.size = 0 := (by rw [e]; rfl); omega)
  clear h91
  have h1s' : ¬ (p0 : Int) + 1 < (s.size : Int) := by omega
  have hd1 : decide ((p0 : Int) + 1 < (s.size : Int)) = false := by rw [decide_eq_false_iff_not]; exact h1s'
  skip
  go_enter Tryd.func85, Tryd.ntmps85
  go_wp2_with fail
  have HCN := (Lib.hid (by rw [← HCC.out, drop_end s (p0 + 1) (by omega)]; rfl) : Hid (C = .error []))
  clear HR HCC
  go_loopg [1] 1 (fun g x wr => x = .int .i64 ((p0 : Int) + 1) ∧ Sb w wr (CL w fun _ => false))
  case atStart => exact ⟨rfl, S0.out⟩
  case round =>
    obtain ⟨rfl, hS⟩ := hrel
    have HS := Lib.hid hS
    clear hS S0
    have h0 := Lib.hid HS.out.tl.heap
    have HE := Lib.hid (HS.out.swap.setRow (cs' := fl fun _ => false) (by simp))
    go_wp2_with (first | (refine wpList_zero27 rfl rfl ?_) | (refine wpList_store_row rfl 94 (.tmp 4) (.tmp 113) rfl w.heap.size (fl fun _ => false) rfl rfl 94 _ h0.out (fsize27 _) rfl (fl_one _) ?_))
    (try simp only [Exit.inBlock, Exit.then])
    refine bodyPost_ret (v := .tuple #[.agg (fl fun _ => false), .int .i64 (s.size : Nat), .bool false]) (res_cls rfl _ _ w.heap.size (fun _ => false) _ _ rfl HE.out.heap rfl rfl) rfl (DclP.none HCN.out HE.out.1 (by simp) rfl)
set_option maxHeartbeats 16000000 in
set_option maxRecDepth 100000 in
theorem dclass_t (s : ByteArray) (p0 : Nat) (hs : s.size ≤ 140737488355328) (h0s : p0 < s.size) (h91 : s[p0] = 91) (h1s : p0 + 1 < s.size) (hv1 : s[p0 + 1] = 94) (w : World) :
    Calls Tryd.prog 85 #[.string s, .int .i64 (p0 : Nat)] w (DclP s true (clw (s.data.toList.drop (p0 + 2))) (bd (s.data.toList.drop (p0 + 2)) fun _ => false) w) := by
  have S0 := Lib.hid (((Sb.start w).alloc (.cells (fl fun _ => false) 94)).alloc (.cells (fl fun _ => false) 94))
  have e1 : (w.alloc (.cells (fl fun _ => false) 94)).heap.size = w.heap.size + 1 := by simp
  rw [e1] at S0
  clear e1
  have hz := zero27
  obtain ⟨R, hR⟩ : ∃ R, bd (s.data.toList.drop (p0 + 2)) (fun _ => false) = R := ⟨_, rfl⟩
  obtain ⟨C, hC⟩ : ∃ C, clw (s.data.toList.drop (p0 + 2)) = C := ⟨_, rfl⟩
  rw [hR, hC]
  have HCC := Lib.hid hC
  have HR := Lib.hid hR
  clear hC hR
  have q0 : ((s[p0].toNat : Int) != 91) = false := by rw [h91]; rfl
  have q0' : ((s[p0].toNat : Int) == 91) = true := by rw [h91]; rfl
  have hlt0 : (p0 : Int) < (s.size : Int) := by omega
  have hd0 : decide ((p0 : Int) ≥ (s.size : Int)) = false := by rw [decide_eq_false_iff_not]; omega
  have hd0' : ¬ s.size ≤ p0 := by omega
  have hse : ¬ s = ByteArray.empty := fun e => (by have h : s.size = 0 := (by rw [e]; rfl); omega)
  clear h91
  have q1 : ((s[p0 + 1].toNat : Int) == 94) = true := by rw [hv1]; rfl
  have h1s' : (p0 : Int) + 1 < (s.size : Int) := by omega
  clear hv1
  go_enter Tryd.func85, Tryd.ntmps85
  go_wp2_with fail
  go_loopg [1] (s.size + 1) (fun g x wr => ∃ n f, s.size < g + n ∧ n ≤ s.size ∧ x = .int .i64 (n : Nat) ∧ bd (s.data.toList.drop n) f = R ∧ clw (s.data.toList.drop n) = C ∧ Sb w wr (CL w f))
  case atStart => exact ⟨p0 + 2, _, by omega, by omega, by go_num, HR.out, HCC.out, S0.out⟩
  case round =>
    obtain ⟨n, f, hg, hns, rfl, hbd, hcl, hS⟩ := hrel
    obtain ⟨gj, rfl⟩ : ∃ gj, gk = gj + 1 := ⟨gk - 1, by omega⟩
    have HS := Lib.hid hS
    clear hS HR HCC S0
    by_cases hlt : n < s.size
    · have hlt' : (n : Int) < (s.size : Int) := by omega
      have hda := drop_at s n hlt
      by_cases h93 : s[n] = 93
      · have HCS := Lib.hid (⟨by rw [← hcl, hda, h93]; exact clw_end _, by rw [← hbd, hda, h93]; exact bd_end _ _⟩ : C = .ok ((), s.data.toList.drop (n + 1)) ∧ R = Option.some (f, s.data.toList.drop (n + 1)))
        have qn : ((s[n].toNat : Int) != 93) = false := by rw [h93]; rfl
        have qn' : ((s[n].toNat : Int) == 93) = true := by rw [h93]; rfl
        have hge : ¬ s.size ≤ n := by omega
        clear hda h93 hbd hcl
        obtain ⟨wo, rfl⟩ : ∃ wo : World, wo = wr := ⟨_, rfl⟩
        go_wp2
        go_loopw [15] (fun i wz => ∃ k : Nat, k ≤ 256 ∧ i = .int .i64 k ∧ Sb w wz (CL w (flip f k))) (fun i _ => 256 - (intOf i).toNat)
        case atStart => exact ⟨0, by omega, rfl, by rw [flip_zero]; exact HS.out⟩
        case round =>
          obtain ⟨k, hk, rfl, hS⟩ := hrel
          have HF := Lib.hid hS
          clear hS
          by_cases hk2 : k < 256
          · have hk2' : (k : Int) < 256 := by omega
            have cf := HF.out.flag k hk2
            rw [flip_get] at cf
            have ff := HF.out.free k
            have zf := HF.out.lt
            have hset := Lib.hid (flip_set f k)
            generalize f k = vv at cf hset
            go_wp2
            go_roundw
            case rel => exact ⟨k + 1, by omega, by go_num, by unfold CL; rw [← hset.out]; exact HF.out.set _ (by simp)⟩
            case measure => simp [intOf]; omega
          · obtain rfl : k = 256 := by omega
            unfold CL at HF
            rw [flip_all] at HF
            have h1 := Lib.hid HF.out.heap
            have h0 := Lib.hid HF.out.tl.heap
            have HE := Lib.hid (HF.out.swap.setRow (cs' := fl (noF f)) (by simp))
            clear hk2 hk
            go_wp2_with (first | (refine wpList_load_row rfl 94 (.tmp 7) rfl (w.heap.size + 1) rfl 94 (fl (noF f)) (0, 0) _ h1.out Tryd.underlying94 rfl (fsize27 _) ?_) | (refine wpList_store_row rfl 94 (.tmp 4) (.tmp 127) rfl w.heap.size (fl (noF f)) rfl rfl 94 _ h0.out (fsize27 _) (by rw [fl_size, fl_size]) (fl_one _) ?_))
            (try simp only [Exit.inBlock, Exit.then])
            refine bodyPost_ret (v := .tuple #[.agg (fl (noF f)), .int .i64 ((n : Int) + 1), .bool true]) (res_cls rfl _ _ w.heap.size (noF f) _ _ rfl HE.out.heap rfl rfl) rfl (DclP.some HCS.out.1 HCS.out.2 HE.out.1 (by rw [drop_len]; omega) rfl)
      · have qn : ((s[n].toNat : Int) == 93) = false := neqU _ 93 (by omega) h93
        have qn2 : ((s[n].toNat : Int) != 93) = true := by rw [bne, qn]; rfl
        have h93' : (s.data.toList.drop n).head? ≠ some 93 := by rw [hda]; simpa using h93
        have ho := Lib.hid (one_any s n hs hns)
        cases hon : one (s.data.toList.drop n) with
        | none =>
          have HCN : Hid (C = .error (badL (s.data.toList.drop n))) := Lib.hid (by rw [← hcl]; exact clw_bad h93' (itl_n hon))
          clear hda h93 h93' hbd hcl
          go_wp2_with fail
          refine (ho.out _).mono ?_
          rintro _ w3 ⟨hb, hrest⟩
          rw [hon] at hrest
          obtain ⟨c, m, rfl⟩ := hrest
          have HS3 := Lib.hid (HS.out.up hb)
          clear hb ho hon
          unfold one3
          have hbad := Lib.hid (bad5_any s n hs hns)
          go_wp2_with (refine wpList_zero27 rfl rfl ?_)
          refine (hbad.out _).mono ?_
          rintro _ _ ⟨bn, hbn, rfl, rfl⟩
          have HBN := Lib.hid hbn
          clear hbn
          have h0 := Lib.hid HS3.out.tl.heap
          have HE := Lib.hid (HS3.out.swap.setRow (cs' := fl fun _ => false) (by simp))
          go_wp2_with (refine wpList_store_row rfl 94 (.tmp 4) (.tmp 62) rfl w.heap.size (fl fun _ => false) rfl rfl 94 _ h0.out (fsize27 _) rfl (fl_one _) ?_)
          (try simp only [Exit.inBlock, Exit.then])
          refine bodyPost_ret (v := .tuple #[.agg (fl fun _ => false), .int .i64 bn, .bool false]) (res_cls rfl _ _ w.heap.size (fun _ => false) _ _ rfl HE.out.heap rfl rfl) rfl (DclP.none HCN.out HE.out.1 HBN.out rfl)
        | some p =>
          obtain ⟨a, q⟩ := p
          have HON := Lib.hid hon
          clear hon
          go_wp2_with fail
          refine (ho.out _).mono ?_
          rintro _ w3 ⟨hb, hrest⟩
          rw [HON.out] at hrest
          obtain ⟨m, hnm, hms, hq, rfl⟩ := hrest
          have HS3 := Lib.hid (HS.out.up hb)
          clear hb ho HS
          unfold one3
          have ha := a.toNat_lt
          by_cases hmx : ∃ h : m < s.size, s[m] = 45
          · obtain ⟨hm2, h45⟩ := hmx
            have hm2' : (m : Int) < (s.size : Int) := by omega
            have qm : ((s[m].toNat : Int) == 45) = true := by rw [h45]; rfl
            have hdm := drop_at s m hm2
            rw [h45] at hdm
            clear h45
            have ho2 := Lib.hid (one_any s (m + 1) hs (by omega))
            rw [show ((m + 1 : Nat) : Int) = (m : Int) + 1 from rfl] at ho2
            cases hon2 : one (s.data.toList.drop (m + 1)) with
            | none =>
              have HCN : Hid (C = .error (badL (s.data.toList.drop (m + 1)))) := Lib.hid (by rw [← hcl]; exact clw_bad h93' (itl_n2 (by rw [HON.out, hq, hdm]) hon2))
              clear hda h93 h93' hbd hcl hdm hq HON
              go_wp2_with fail
              refine (ho2.out _).mono ?_
              rintro _ w4 ⟨hb, hrest⟩
              rw [hon2] at hrest
              obtain ⟨c, m', rfl⟩ := hrest
              have HS4 := Lib.hid (HS3.out.up hb)
              clear hb ho2 hon2 HS3
              unfold one3
              have hbad := Lib.hid (bad5_any s (m + 1) hs (by omega))
              rw [show ((m + 1 : Nat) : Int) = (m : Int) + 1 from rfl] at hbad
              go_wp2_with (refine wpList_zero27 rfl rfl ?_)
              refine (hbad.out _).mono ?_
              rintro _ _ ⟨bn, hbn, rfl, rfl⟩
              have HBN := Lib.hid hbn
              clear hbn
              have h0 := Lib.hid HS4.out.tl.heap
              have HE := Lib.hid (HS4.out.swap.setRow (cs' := fl fun _ => false) (by simp))
              go_wp2_with (refine wpList_store_row rfl 94 (.tmp 4) (.tmp 88) rfl w.heap.size (fl fun _ => false) rfl rfl 94 _ h0.out (fsize27 _) rfl (fl_one _) ?_)
              (try simp only [Exit.inBlock, Exit.then])
              refine bodyPost_ret (v := .tuple #[.agg (fl fun _ => false), .int .i64 bn, .bool false]) (res_cls rfl _ _ w.heap.size (fun _ => false) _ _ rfl HE.out.heap rfl rfl) rfl (DclP.none HCN.out HE.out.1 HBN.out rfl)
            | some p2 =>
              obtain ⟨b, q2⟩ := p2
              have HON2 := Lib.hid hon2
              clear hon2
              go_wp2_with fail
              refine (ho2.out _).mono ?_
              rintro _ w4 ⟨hb, hrest⟩
              rw [HON2.out] at hrest
              obtain ⟨m2, hnm2, hms2, hq2, rfl⟩ := hrest
              have HS4 := Lib.hid (HS3.out.up hb)
              clear hb ho2 HS3
              unfold one3
              have hbl := b.toNat_lt
              by_cases hab : a.toNat ≤ b.toNat
              · have habU : a ≤ b := by rw [UInt8.le_iff_toNat_le]; exact hab
                have hit : itm (s.data.toList.drop n) = some (a, b, s.data.toList.drop m2) := by unfold itm; rw [HON.out, hq, hdm]; simp [HON2.out, habU, hq2]
                have HNX := Lib.hid (show bd (s.data.toList.drop m2) (orF f (body.rangeG a b)) = R by rw [← hbd, hda]; exact (bd_item _ _ f h93 a b _ (by rw [← hda]; exact hit)).symm)
                have HNC : Hid (clw (s.data.toList.drop m2) = C) := Lib.hid (by rw [← hcl]; exact (clw_item h93' (itl_y (by rw [HON.out, hq, hdm]) (by rw [HON2.out, hq2]) habU)).symm)
                clear hda h93 h93' hbd hcl hit hdm hq HON HON2 hq2
                have hlx : ¬ (b.toNat : Int) < (a.toNat : Int) := by omega
                have hlx' : ¬ b.toNat < a.toNat := by omega
                obtain ⟨wo, rfl⟩ : ∃ wo : World, wo = w4 := ⟨_, rfl⟩
                go_wp2
                go_loopw [14] (fun i wz => ∃ k : Nat, a.toNat ≤ k ∧ k ≤ b.toNat + 1 ∧ i = .int .i64 k ∧ Sb w wz [(w.heap.size + 1, .cells (fl (partF f a.toNat k)) 94), (w.heap.size, .cells (fl fun _ => false) 94)]) (fun i _ => b.toNat + 1 - (intOf i).toNat)
                case atStart => exact ⟨a.toNat, Nat.le_refl _, by omega, rfl, by rw [part_zero]; exact HS4.out⟩
                case round =>
                  obtain ⟨k, hk1, hk2, rfl, hS⟩ := hrel
                  have HF := Lib.hid hS
                  clear hS
                  by_cases hkb : k ≤ b.toNat
                  · have hkb' : (k : Int) ≤ (b.toNat : Int) := by omega
                    have hk256 : k < 256 := by omega
                    have cf := HF.out.flag k hk256
                    have ff := HF.out.free k
                    have zf := HF.out.lt
                    have hset := Lib.hid (part_set f a.toNat k hk1)
                    go_wp2
                    go_roundw
                    case rel => exact ⟨k + 1, by omega, by omega, by go_num, by rw [← hset.out]; exact HF.out.set _ (by simp)⟩
                    case measure => simp [intOf]; omega
                  · obtain rfl : k = b.toNat + 1 := by omega
                    have hfl := Lib.hid (part_all f a b hab)
                    have hkb' : ¬ ((b.toNat + 1 : Nat) : Int) ≤ (b.toNat : Int) := by omega
                    go_wp2
                    go_roundg gj
                    case rel => exact ⟨m2, orF f (body.rangeG a b), by omega, by omega, by go_num, HNX.out, HNC.out, by unfold CL; rw [← hfl.out]; exact HF.out⟩
                    case measure => omega
              · have habU : ¬ a ≤ b := by rw [UInt8.le_iff_toNat_le]; exact hab
                have HCN : Hid (∃ c, C = .error (c :: s.data.toList.drop m2)) := Lib.hid (by
                  obtain ⟨c, hz⟩ := itl_z (l := s.data.toList.drop n) (by rw [HON.out, hq, hdm]) (by rw [HON2.out, hq2]) habU
                  exact ⟨c, by rw [← hcl]; exact clw_bad h93' hz⟩)
                obtain ⟨cz, hcz⟩ := HCN.out
                have HCZ := Lib.hid hcz
                clear hda h93 h93' hbd hcl hdm hq HON HON2 hq2 HCN hcz
                have hlx : (b.toNat : Int) < (a.toNat : Int) := by omega
                have hlx' : b.toNat < a.toNat := by omega
                have h0 := Lib.hid HS4.out.tl.heap
                have HE := Lib.hid (HS4.out.swap.setRow (cs' := fl fun _ => false) (by simp))
                go_wp2_with (first | (refine wpList_zero27 rfl rfl ?_) | (refine wpList_store_row rfl 94 (.tmp 4) (.tmp 95) rfl w.heap.size (fl fun _ => false) rfl rfl 94 _ h0.out (fsize27 _) rfl (fl_one _) ?_))
                (try simp only [Exit.inBlock, Exit.then])
                refine bodyPost_ret (v := .tuple #[.agg (fl fun _ => false), .int .i64 ((m2 : Nat) - 1 : Int), .bool false]) (res_cls rfl _ _ w.heap.size (fun _ => false) _ _ rfl HE.out.heap rfl rfl) rfl (DclP.none HCZ.out HE.out.1 (by rw [List.length_cons, drop_len]; omega) rfl)
          · have hit : itm (s.data.toList.drop n) = some (a, a, s.data.toList.drop m) := by
              unfold itm; rw [HON.out, hq]
              by_cases hm2 : m < s.size
              · have hdm := drop_at s m hm2
                rw [hdm]; simp [show s[m] ≠ 45 from fun e => hmx ⟨hm2, e⟩]
              · rw [drop_end s m (by omega)]
            have HNX := Lib.hid (show bd (s.data.toList.drop m) (orF f (body.rangeG a a)) = R by rw [← hbd, hda]; exact (bd_item _ _ f h93 a a _ (by rw [← hda]; exact hit)).symm)
            have HNC : Hid (clw (s.data.toList.drop m) = C) := Lib.hid (by
              rw [← hcl]
              refine (clw_item h93' (itl_x (by rw [HON.out, hq]) ?_)).symm
              by_cases hm2 : m < s.size
              · rw [drop_at s m hm2]; simp only [List.head?_cons, ne_eq, Option.some.injEq]; exact fun e => hmx ⟨hm2, e⟩
              · rw [drop_end s m (by omega)]; simp)
            clear hda h93 h93' hbd hcl hit hq HON
            have hab : a.toNat ≤ a.toNat := Nat.le_refl _
            by_cases hm2 : m < s.size
            · have hm2' : (m : Int) < (s.size : Int) := by omega
              have qm : ((s[m].toNat : Int) == 45) = false := neqU _ 45 (by omega) (fun e => hmx ⟨hm2, e⟩)
              clear hmx
              obtain ⟨wo, rfl⟩ : ∃ wo : World, wo = w3 := ⟨_, rfl⟩
              go_wp2
              go_loopw [14] (fun i wz => ∃ k : Nat, a.toNat ≤ k ∧ k ≤ a.toNat + 1 ∧ i = .int .i64 k ∧ Sb w wz [(w.heap.size + 1, .cells (fl (partF f a.toNat k)) 94), (w.heap.size, .cells (fl fun _ => false) 94)]) (fun i _ => a.toNat + 1 - (intOf i).toNat)
              case atStart => exact ⟨a.toNat, Nat.le_refl _, by omega, rfl, by rw [part_zero]; exact HS3.out⟩
              case round =>
                obtain ⟨k, hk1, hk2, rfl, hS⟩ := hrel
                have HF := Lib.hid hS
                clear hS
                by_cases hkb : k ≤ a.toNat
                · have hkb' : (k : Int) ≤ (a.toNat : Int) := by omega
                  have hk256 : k < 256 := by omega
                  have cf := HF.out.flag k hk256
                  have ff := HF.out.free k
                  have zf := HF.out.lt
                  have hset := Lib.hid (part_set f a.toNat k hk1)
                  go_wp2
                  go_roundw
                  case rel => exact ⟨k + 1, by omega, by omega, by go_num, by rw [← hset.out]; exact HF.out.set _ (by simp)⟩
                  case measure => simp [intOf]; omega
                · obtain rfl : k = a.toNat + 1 := by omega
                  have hfl := Lib.hid (part_all f a a hab)
                  have hkb' : ¬ ((a.toNat + 1 : Nat) : Int) ≤ (a.toNat : Int) := by omega
                  go_wp2
                  go_roundg gj
                  case rel => exact ⟨m, orF f (body.rangeG a a), by omega, by omega, by go_num, HNX.out, HNC.out, by unfold CL; rw [← hfl.out]; exact HF.out⟩
                  case measure => omega
            · have hm2' : ¬ (m : Int) < (s.size : Int) := by omega
              have hdm2 : decide ((m : Int) < (s.size : Int)) = false := by simpa using hm2'
              clear hmx
              obtain ⟨wo, rfl⟩ : ∃ wo : World, wo = w3 := ⟨_, rfl⟩
              go_wp2
              go_loopw [14] (fun i wz => ∃ k : Nat, a.toNat ≤ k ∧ k ≤ a.toNat + 1 ∧ i = .int .i64 k ∧ Sb w wz [(w.heap.size + 1, .cells (fl (partF f a.toNat k)) 94), (w.heap.size, .cells (fl fun _ => false) 94)]) (fun i _ => a.toNat + 1 - (intOf i).toNat)
              case atStart => exact ⟨a.toNat, Nat.le_refl _, by omega, rfl, by rw [part_zero]; exact HS3.out⟩
              case round =>
                obtain ⟨k, hk1, hk2, rfl, hS⟩ := hrel
                have HF := Lib.hid hS
                clear hS
                by_cases hkb : k ≤ a.toNat
                · have hkb' : (k : Int) ≤ (a.toNat : Int) := by omega
                  have hk256 : k < 256 := by omega
                  have cf := HF.out.flag k hk256
                  have ff := HF.out.free k
                  have zf := HF.out.lt
                  have hset := Lib.hid (part_set f a.toNat k hk1)
                  go_wp2
                  go_roundw
                  case rel => exact ⟨k + 1, by omega, by omega, by go_num, by rw [← hset.out]; exact HF.out.set _ (by simp)⟩
                  case measure => simp [intOf]; omega
                · obtain rfl : k = a.toNat + 1 := by omega
                  have hfl := Lib.hid (part_all f a a hab)
                  have hkb' : ¬ ((a.toNat + 1 : Nat) : Int) ≤ (a.toNat : Int) := by omega
                  go_wp2
                  go_roundg gj
                  case rel => exact ⟨m, orF f (body.rangeG a a), by omega, by omega, by go_num, HNX.out, HNC.out, by unfold CL; rw [← hfl.out]; exact HF.out⟩
                  case measure => omega
    · obtain rfl : n = s.size := by omega
      have HCN : Hid (C = .error []) := Lib.hid (by rw [← hcl, drop_end s s.size (Nat.le_refl _)]; rfl)
      clear hbd hcl
      have h0 := Lib.hid HS.out.tl.heap
      have HE := Lib.hid (HS.out.swap.setRow (cs' := fl fun _ => false) (by simp))
      go_wp2_with (first | (refine wpList_zero27 rfl rfl ?_) | (refine wpList_store_row rfl 94 (.tmp 4) (.tmp 113) rfl w.heap.size (fl fun _ => false) rfl rfl 94 _ h0.out (fsize27 _) rfl (fl_one _) ?_))
      (try simp only [Exit.inBlock, Exit.then])
      refine bodyPost_ret (v := .tuple #[.agg (fl fun _ => false), .int .i64 (s.size : Nat), .bool false]) (res_cls rfl _ _ w.heap.size (fun _ => false) _ _ rfl HE.out.heap rfl rfl) rfl (DclP.none HCN.out HE.out.1 (by simp) rfl)
end Go.Proofs.YtmjojahkbjlcdaaDoor
