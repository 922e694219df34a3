/- Package grams. -/
import Derived.Test.YtpmkdpjcpimhkaaProg
import Derived.Test.YtpmkdpjcpimhkaaHg
import Derived.Deep.SlicePairs
import Derived.Deep.Slices
import Derived.Laws.IdiomArrays
import Derived.OpenShut
import Derived.WideBlind
import Derived.Great.BuildSlice
import Derived.WalkKit
import Derived.Maps.OwnSet
import Derived.Maps.OwnOps
import Derived.Maps.Own
import Derived.DeepKeys5
import Derived.BigFrame
import Derived.WalkMore
import Derived.ScopeJumps
import Derived.StillTailTactics
import Derived.Stop.BytesEq
import Derived.WalkLawsBesides
import Derived.WalkSpells
import Derived.Outline
import Derived.Lib.Walk
import Derived.Lib.Hide
import Derived.Lib.Slices
import Derived.Lib.Strings
import Derived.RegionTactic
import Derived.LoopTactic
import Derived.Below
import Derived.IntWalk
import Derived.Deep.QuietTactic
import Derived.BigQuiet
import Derived.Deep.MidRow
import Derived.Maps.AppendAt
import Derived.Laws.Rows
import Derived.Laws.Tables
import Derived.Deep.WholeRow
import Derived.Deep.Cut
import Derived.Deep.CutRange
import Derived.Lib.SliceRun
import Derived.Laws.MakeOwn
import Derived.Deep.RegionLaw
import Derived.Deep.RegionLawGrows
import Derived.Deep.RegionHeld3
import Derived.RegionCalls
import Derived.Deep.RegionWith
import Derived.Deep.Light
import Derived.Laws.CopyOwn
import Derived.Laws.ResultCell
namespace Go.Proofs.Ytpmkdpjcpimhkaa
set_option linter.unusedSimpArgs false
set_option linter.unusedVariables false
set_option maxRecDepth 100000
open Go.RowKit
/- comeTo, good. -/
theorem it_add {α : Type} (F : α → α) : ∀ (n : Nat) (x : α), it F n (F x) = it F (n + 1) x := fun n x => rfl
set_option maxHeartbeats 8000000 in
theorem clo62 {D : Nat → Prop} {w : World} {b : Nat} {l : List Pr} {s t u : Int} {p : Option Addr} {c v : Nat} (hg : GM D w l p) (h3 : w.cell? ⟨b, 3, none⟩ = some (.slice p l.length c)) (hr : ∀ q ∈ l, (0 ≤ q.hd ∧ q.hd < 64) ∧ ∀ x ∈ q.bd, 0 ≤ x ∧ x < 64) (hv : v < wmax) :
    Calls Try.prog 62 #[.int .u64 (v : Nat), .pointer (some ⟨b, 0, none⟩)] w fun e w' => e = .returned (.int .u64 ((comeS l v : Nat) : Int)) ∧ Below w.heap.size w w' := by
  have HG := Lib.hid hg
  have hnl := hg.nl
  have HRG := Lib.hid hr
  have HV := Lib.hid hv
  have hz := zero38
  have HB0 := Lib.hid (Below.refl w.heap.size w)
  obtain ⟨R, hR⟩ : ∃ R, comeS l v = R := ⟨_, rfl⟩
  have HR : Hid (comeS (l.drop 0) v = R) := Lib.hid hR
  rw [hR]
  clear hR hg hr hv
  go_enter Try.func62, Try.ntmps62
  go_upto_region 2 with fail
  clear h3
  go_loopw [0, 9] (fun a i wr => ∃ (j s : Nat), i = .int .i64 (j : Nat) ∧ a = .int .u64 (s : Nat) ∧ j ≤ l.length ∧ Hid (s < wmax) ∧ Hid (comeS (l.drop j) s = R) ∧ Hid (Below w.heap.size w wr)) (fun _ i _ => l.length - (intOf i).toNat)
  case atStart => exact ⟨0, v, rfl, rfl, by omega, HV, HR, HB0⟩
  case round =>
  clear HB0 HR HV
  obtain ⟨j, s, rfl, rfl, hj, HV, HR, HB⟩ := hrel
  obtain ⟨wo, rfl⟩ : ∃ wo : World, wo = wr := ⟨_, rfl⟩
  have hsz := HB.out.size
  by_cases hlt : j < l.length
  · have hltI : (j : Int) < (l.length : Int) := by omega
    have hjI : ¬ (j : Int) < 0 := by omega
    obtain ⟨bb, o, q, d, rfl, hbb, c0, c1, c2, hiv, hbdl, hmem⟩ := (HG.out.up HB.out).at hlt
    have hgo : comeS (l.drop (j + 1)) (if s.testBit l[j].hd.toNat = true then s ||| ofW l[j].bd 0 else s) = R := by
      rw [← HR.out, List.drop_eq_getElem_cons hlt, comeS]
    obtain ⟨x, hxx⟩ : ∃ x, l[j] = x := ⟨_, rfl⟩
    rw [hxx] at c0 c1 c2 hgo hiv hbdl hmem
    have hx := HRG.out x hmem
    obtain ⟨d0, d1, d2⟩ := box_cells wo (.int .i64 x.hd) (.slice q x.bd.length d) (.bool x.rt) 38
    have hwb := (Below.refl wo.heap.size wo).alloc (Nat.le_refl _) (.cells #[.int .i64 x.hd, .slice q x.bd.length d, .bool x.rt] 38)
    have HB2 := Lib.hid (HB.out.trans (hwb.mono hsz))
    have HIV := Lib.hid (hiv.mono (fun _ h => h) (fun b _ h => hwb.block b h))
    have H1 := Lib.hid (fun w => has_any HV.out hx.1.1 hx.1.2 w)
    have H2 := Lib.hid (of_any hx.2 hbdl HIV.out)
    have how := ofW_lt x.bd 0 hx.2 (by decide)
    have hor := b_or HV.out how
    have HW := Lib.hid (w_or HV.out how)
    obtain ⟨z, hz'⟩ : ∃ z, ofW x.bd 0 = z := ⟨_, rfl⟩
    rw [hz'] at H2 hor HW hgo
    obtain ⟨tb, htb⟩ : ∃ tb, s.testBit x.hd.toNat = tb := ⟨_, rfl⟩
    rw [htb] at H1 hgo
    have HGO := Lib.hid hgo
    generalize x.hd = hd at c0 d0 HB2 H1 H2
    generalize x.bd.length = n at c1 d1 HB2 H2
    generalize x.rt = rt at c2 d2 HB2 H2
    clear hx hiv hbdl hmem hwb hxx how hz' htb hgo HR HIV
    go_wp2_with fail
    refine (H1.out _).mono ?_
    rintro _ w1 ⟨rfl, rfl⟩
    cases tb with
    | true =>
      go_wp2_with fail
      refine H2.out.mono ?_
      rintro _ w1 ⟨rfl, rfl⟩
      go_wp2_with fail
      go_roundw
      case rel => exact ⟨j + 1, _, by go_num, rfl, by omega, HW, Lib.hid (by have := HGO.out; simpa using this), HB2⟩
      case measure => simp [intOf]; omega
    | false =>
      go_wp2_with fail
      go_roundw
      case rel => exact ⟨j + 1, _, by go_num, rfl, by omega, HV, Lib.hid (by have := HGO.out; simpa using this), HB2⟩
      case measure => simp [intOf]; omega
  · obtain rfl : j = l.length := by omega
    have hltI : ¬ (l.length : Int) < (l.length : Int) := by omega
    have hs : s = R := by have h := HR.out; rwa [List.drop_length, comeS] at h
    subst hs
    clear hlt HR
    go_wp2_with fail
    go_ret
    exact ⟨rfl, HB.out⟩
set_option maxHeartbeats 8000000 in
theorem clo65 {D : Nat → Prop} {w : World} {b : Nat} {l : List Pr} {s t u : Int} {p : Option Addr} {c v : Nat} (hg : GM D w l p) (h3 : w.cell? ⟨b, 3, none⟩ = some (.slice p l.length c)) (hr : ∀ q ∈ l, (0 ≤ q.hd ∧ q.hd < 64) ∧ ∀ x ∈ q.bd, 0 ≤ x ∧ x < 64) (hv : v < wmax) :
    Calls Try.prog 65 #[.int .u64 (v : Nat), .pointer (some ⟨b, 0, none⟩)] w fun e w' => e = .returned (.int .u64 ((goodS l v : Nat) : Int)) ∧ Below w.heap.size w w' := by
  have HG := Lib.hid hg
  have hnl := hg.nl
  have HRG := Lib.hid hr
  have HV := Lib.hid hv
  have hz := zero38
  have HB0 := Lib.hid (Below.refl w.heap.size w)
  obtain ⟨R, hR⟩ : ∃ R, goodS l v = R := ⟨_, rfl⟩
  have HR : Hid (goodS (l.drop 0) v = R) := Lib.hid hR
  rw [hR]
  clear hR hg hr hv
  go_enter Try.func65, Try.ntmps65
  go_upto_region 2 with fail
  clear h3
  go_loopw [0, 9] (fun a i wr => ∃ (j s : Nat), i = .int .i64 (j : Nat) ∧ a = .int .u64 (s : Nat) ∧ j ≤ l.length ∧ Hid (s < wmax) ∧ Hid (goodS (l.drop j) s = R) ∧ Hid (Below w.heap.size w wr)) (fun _ i _ => l.length - (intOf i).toNat)
  case atStart => exact ⟨0, v, rfl, rfl, by omega, HV, HR, HB0⟩
  case round =>
  clear HB0 HR HV
  obtain ⟨j, s, rfl, rfl, hj, HV, HR, HB⟩ := hrel
  obtain ⟨wo, rfl⟩ : ∃ wo : World, wo = wr := ⟨_, rfl⟩
  have hsz := HB.out.size
  by_cases hlt : j < l.length
  · have hltI : (j : Int) < (l.length : Int) := by omega
    have hjI : ¬ (j : Int) < 0 := by omega
    obtain ⟨bb, o, q, d, rfl, hbb, c0, c1, c2, hiv, hbdl, hmem⟩ := (HG.out.up HB.out).at hlt
    have hgo : goodS (l.drop (j + 1)) (if ofW l[j].bd 0 ||| s = s then s ||| 2 ^ l[j].hd.toNat else s) = R := by
      rw [← HR.out, List.drop_eq_getElem_cons hlt, goodS]
    obtain ⟨x, hxx⟩ : ∃ x, l[j] = x := ⟨_, rfl⟩
    rw [hxx] at c0 c1 c2 hgo hiv hbdl hmem
    have hx := HRG.out x hmem
    obtain ⟨d0, d1, d2⟩ := box_cells wo (.int .i64 x.hd) (.slice q x.bd.length d) (.bool x.rt) 38
    have hwb := (Below.refl wo.heap.size wo).alloc (Nat.le_refl _) (.cells #[.int .i64 x.hd, .slice q x.bd.length d, .bool x.rt] 38)
    have HB2 := Lib.hid (HB.out.trans (hwb.mono hsz))
    have HIV := Lib.hid (hiv.mono (fun _ h => h) (fun b _ h => hwb.block b h))
    have H1 := Lib.hid (fun w => one_any hx.1.1 hx.1.2 w)
    have H2 := Lib.hid (of_any hx.2 hbdl HIV.out)
    have hpw := w_pow (n := x.hd.toNat) (by omega)
    have hor := b_or HV.out hpw
    have HW := Lib.hid (w_or HV.out hpw)
    have hno := b_not (ofW_lt x.bd 0 hx.2 (by decide)) HV.out
    obtain ⟨z, hz'⟩ : ∃ z, ofW x.bd 0 = z := ⟨_, rfl⟩
    rw [hz'] at H2 hno hgo
    obtain ⟨y, hy'⟩ : ∃ y, 2 ^ x.hd.toNat = y := ⟨_, rfl⟩
    rw [hy'] at H1 hor HW hgo
    by_cases hc : z ||| s = s
    · rw [decide_eq_true hc] at hno
      rw [if_pos hc] at hgo
      have HGO := Lib.hid hgo
      generalize x.hd = hd at c0 d0 HB2 H1 H2
      generalize x.bd.length = n at c1 d1 HB2 H2
      generalize x.rt = rt at c2 d2 HB2 H2
      clear hx hiv hbdl hmem hwb hxx hz' hy' hgo HR HIV hc hpw
      go_wp2_with fail
      refine H2.out.mono ?_
      rintro _ w1 ⟨rfl, rfl⟩
      go_wp2_with fail
      refine (H1.out _).mono ?_
      rintro _ w1 ⟨rfl, rfl⟩
      go_wp2_with fail
      go_roundw
      case rel => exact ⟨j + 1, _, by go_num, rfl, by omega, HW, HGO, HB2⟩
      case measure => simp [intOf]; omega
    · rw [decide_eq_false hc] at hno
      rw [if_neg hc] at hgo
      have HGO := Lib.hid hgo
      generalize x.hd = hd at c0 d0 HB2 H1 H2
      generalize x.bd.length = n at c1 d1 HB2 H2
      generalize x.rt = rt at c2 d2 HB2 H2
      clear hx hiv hbdl hmem hwb hxx hz' hy' hgo HR HIV hc hpw
      go_wp2_with fail
      refine H2.out.mono ?_
      rintro _ w1 ⟨rfl, rfl⟩
      go_wp2_with fail
      go_roundw
      case rel => exact ⟨j + 1, _, by go_num, rfl, by omega, HV, HGO, HB2⟩
      case measure => simp [intOf]; omega
  · obtain rfl : j = l.length := by omega
    have hltI : ¬ (l.length : Int) < (l.length : Int) := by omega
    have hs : s = R := by have h := HR.out; rwa [List.drop_length, goodS] at h
    subst hs
    clear hlt HR
    go_wp2_with fail
    go_ret
    exact ⟨rfl, HB.out⟩
set_option maxHeartbeats 4000000 in
theorem settled_62 {w : World} {b x : Nat} {F : Nat → Nat} (hx : x < wmax) (hl : ∀ s, s < wmax → F s < wmax) (hu : ∀ s k, s.testBit k = true → (F s).testBit k = true)
    (hc : ∀ (z : World) (s : Nat), Below w.heap.size w z → s < wmax → Calls Try.prog 62 #[.int .u64 (s : Nat), .pointer (some ⟨b, 0, none⟩)] z fun e z' => e = .returned (.int .u64 ((F s : Nat) : Int)) ∧ Below z.heap.size z z') :
    Calls Try.prog 60 #[.int .u64 (x : Nat), .func (.func 62) #[] #[.pointer (some ⟨b, 0, none⟩)]] w fun e w' => ∃ m, F (it F m x) = it F m x ∧ e = .returned (.int .u64 ((it F m x : Nat) : Int)) ∧ Below w.heap.size w w' := by
  have HC := Lib.hid hc
  have HL := Lib.hid hl
  have HU := Lib.hid (fun s => up_le (hu s))
  have HX := Lib.hid hx
  clear hc hl hu hx
  go_enter Try.func60, Try.ntmps60
  go_wp2_with fail
  go_loopw [0] (fun a wr => ∃ (s : Nat), a = .int .u64 (s : Nat) ∧ Hid (s < wmax) ∧ Hid (∃ k, s = it F k x) ∧ Hid (Below w.heap.size w wr)) (fun a _ => wmax - (intOf a).toNat)
  case atStart => exact ⟨x, rfl, HX, Lib.hid ⟨0, rfl⟩, Lib.hid (Below.refl _ _)⟩
  case round =>
  obtain ⟨s, rfl, HV, HK, HB⟩ := hrel
  obtain ⟨wo, rfl⟩ : ∃ wo : World, wo = wr := ⟨_, rfl⟩
  have hsz := HB.out.size
  go_wp2_with fail
  refine (HC.out wo s HB.out HV.out).mono ?_
  rintro _ w1 ⟨rfl, hb1⟩
  have HB2 := Lib.hid (HB.out.trans (hb1.mono hsz))
  have HV2 := Lib.hid (HL.out s HV.out)
  have HUS := Lib.hid (HU.out s)
  clear hb1 HB hsz
  by_cases he : F s = s
  · have HE := Lib.hid he
    have e1 : (((F s : Nat) : Int) == ((s : Nat) : Int)) = true := by rw [he]; simp
    obtain ⟨y, hy⟩ : ∃ y, F s = y := ⟨_, rfl⟩
    rw [hy] at e1 ⊢
    clear he hy
    go_wp2_with fail
    go_ret
    obtain ⟨k, hk⟩ := HK.out
    exact ⟨k, by rw [← hk]; exact HE.out, by rw [hk]; rfl, HB2.out⟩
  · have e1 : (((F s : Nat) : Int) == ((s : Nat) : Int)) = false := by rw [beq_eq_false_iff_ne]; omega
    have HLT : Hid (s < F s) := Lib.hid (HUS.out.elim (fun h => absurd h he) id)
    have HK2 : Hid (∃ k, F s = it F k x) := Lib.hid (by obtain ⟨k, hk⟩ := HK.out; exact ⟨k + 1, by rw [it_succ, ← hk]⟩)
    obtain ⟨y, hy⟩ : ∃ y, F s = y := ⟨_, rfl⟩
    rw [hy] at e1 HLT HK2 HV2 ⊢
    clear he hy HUS
    go_wp2_with fail
    go_roundw
    case rel => exact ⟨y, rfl, HV2, HK2, HB2⟩
    case measure => have h1 := HLT.out; have h2 := HV2.out; simp [intOf]; omega
set_option maxHeartbeats 4000000 in
theorem settled_65 {w : World} {b x : Nat} {F : Nat → Nat} (hx : x < wmax) (hl : ∀ s, s < wmax → F s < wmax) (hu : ∀ s k, s.testBit k = true → (F s).testBit k = true)
    (hc : ∀ (z : World) (s : Nat), Below w.heap.size w z → s < wmax → Calls Try.prog 65 #[.int .u64 (s : Nat), .pointer (some ⟨b, 0, none⟩)] z fun e z' => e = .returned (.int .u64 ((F s : Nat) : Int)) ∧ Below z.heap.size z z') :
    Calls Try.prog 60 #[.int .u64 (x : Nat), .func (.func 65) #[] #[.pointer (some ⟨b, 0, none⟩)]] w fun e w' => ∃ m, F (it F m x) = it F m x ∧ e = .returned (.int .u64 ((it F m x : Nat) : Int)) ∧ Below w.heap.size w w' := by
  have HC := Lib.hid hc
  have HL := Lib.hid hl
  have HU := Lib.hid (fun s => up_le (hu s))
  have HX := Lib.hid hx
  clear hc hl hu hx
  go_enter Try.func60, Try.ntmps60
  go_wp2_with fail
  go_loopw [0] (fun a wr => ∃ (s : Nat), a = .int .u64 (s : Nat) ∧ Hid (s < wmax) ∧ Hid (∃ k, s = it F k x) ∧ Hid (Below w.heap.size w wr)) (fun a _ => wmax - (intOf a).toNat)
  case atStart => exact ⟨x, rfl, HX, Lib.hid ⟨0, rfl⟩, Lib.hid (Below.refl _ _)⟩
  case round =>
  obtain ⟨s, rfl, HV, HK, HB⟩ := hrel
  obtain ⟨wo, rfl⟩ : ∃ wo : World, wo = wr := ⟨_, rfl⟩
  have hsz := HB.out.size
  go_wp2_with fail
  refine (HC.out wo s HB.out HV.out).mono ?_
  rintro _ w1 ⟨rfl, hb1⟩
  have HB2 := Lib.hid (HB.out.trans (hb1.mono hsz))
  have HV2 := Lib.hid (HL.out s HV.out)
  have HUS := Lib.hid (HU.out s)
  clear hb1 HB hsz
  by_cases he : F s = s
  · have HE := Lib.hid he
    have e1 : (((F s : Nat) : Int) == ((s : Nat) : Int)) = true := by rw [he]; simp
    obtain ⟨y, hy⟩ : ∃ y, F s = y := ⟨_, rfl⟩
    rw [hy] at e1 ⊢
    clear he hy
    go_wp2_with fail
    go_ret
    obtain ⟨k, hk⟩ := HK.out
    exact ⟨k, by rw [← hk]; exact HE.out, by rw [hk]; rfl, HB2.out⟩
  · have e1 : (((F s : Nat) : Int) == ((s : Nat) : Int)) = false := by rw [beq_eq_false_iff_ne]; omega
    have HLT : Hid (s < F s) := Lib.hid (HUS.out.elim (fun h => absurd h he) id)
    have HK2 : Hid (∃ k, F s = it F k x) := Lib.hid (by obtain ⟨k, hk⟩ := HK.out; exact ⟨k + 1, by rw [it_succ, ← hk]⟩)
    obtain ⟨y, hy⟩ : ∃ y, F s = y := ⟨_, rfl⟩
    rw [hy] at e1 HLT HK2 HV2 ⊢
    clear he hy HUS
    go_wp2_with fail
    go_roundw
    case rel => exact ⟨y, rfl, HV2, HK2, HB2⟩
    case measure => have h1 := HLT.out; have h2 := HV2.out; simp [intOf]; omega
set_option maxHeartbeats 4000000 in
theorem good_any {D : Nat → Prop} {w : World} {g : Gr} {p : Option Addr} {c : Nat} (hg : GM D w g.ps p) (hn : NumOk g) :
    Calls Try.prog 34 #[.agg #[.int .i64 g.t, .int .i64 g.s, .int .i64 g.st, .slice p g.ps.length c]] w fun e w' => e = .returned (.int .u64 ((wd (fun k => Good g k) : Nat) : Int)) ∧ Below w.heap.size w w' := by
  have h1 := hn.t1; have h2 := hn.t2; have h3 := hn.s1; have h4 := hn.s2
  have hw0 := (Below.refl w.heap.size w).alloc (Nat.le_refl _) (.cells (gC g p c) 24)
  obtain ⟨k0, k1, k2, k3⟩ := gC_at (GB.new (w := w) (g := g) (p := p) (c := c))
  have hgu := hg.up hw0
  have hr : ∀ q ∈ g.ps, (0 ≤ q.hd ∧ q.hd < 64) ∧ ∀ x ∈ q.bd, 0 ≤ x ∧ x < 64 := fun q hq => ⟨by have := hn.hd q hq; omega, fun x hx => by have := hn.bd q hq x hx; omega⟩
  have hlt : w.heap.size < (w.alloc (.cells (gC g p c) 24)).heap.size := by simp
  have H1 := Lib.hid (fun w => below_any (n := g.t) (by omega) (by omega) w)
  have H2 := Lib.hid (settled_65 (w := w.alloc (.cells (gC g p c) 24)) (b := w.heap.size) (x := 2 ^ g.t.toNat - 1) (F := goodS g.ps) (by rw [wd_below (by omega)]; exact wd_lt _) (fun s hs => goodS_lt _ _ (fun q hq => (hr q hq).1) hs) (fun s k => goodS_up _ s k) (fun z s hz hs => clo65 (s := 0) (t := 0) (u := 0) (hgu.up hz) (cell_up k3 hz hlt) hr hs))
  have HS := Lib.hid (fun m => good_sem hn (m := m))
  have HW := Lib.hid hw0
  have hmf : ∀ (fn : Fn) (first cap : Array Value) (w : World), (Instr.makeFunc fn first cap).run Try.prog w = .ok (.func fn first cap) w := fun _ _ _ _ => rfl
  unfold gC at *
  generalize goodS g.ps = F at H2 HS
  generalize 2 ^ g.t.toNat - 1 = x0 at H1 H2 HS
  generalize wd (fun k => Good g k) = R at HS ⊢
  clear h1 h2 h3 h4 hw0 hgu hr hlt hg hn
  go_enter Try.func34, Try.ntmps34
  go_wp2_with fail
  refine (H1.out _).mono ?_
  rintro _ w1 ⟨rfl, rfl⟩
  go_wp2_with fail
  refine H2.out.mono ?_
  rintro _ w1 ⟨m, hm, rfl, hb1⟩
  rw [HS.out m hm]
  have HB := Lib.hid (HW.out.trans (hb1.mono HW.out.size))
  clear hb1 hm
  go_wp2_with fail
  go_ret
  exact ⟨rfl, HB.out⟩
end Go.Proofs.Ytpmkdpjcpimhkaa
