/- Package grams. -/
import Derived.Test.YtpmkdpjcpimhkaaProg
import Derived.Test.YtpmkdpjcpimhkaaHh
import Derived.Deep.SlicePairs
import Derived.Deep.Slices
import Derived.Laws.IdiomArrays
import Derived.OpenShut
import Derived.WideBlind
import Derived.Great.BuildSlice
import Derived.WalkKit
import Derived.Maps.OwnSet
import Derived.Maps.OwnOps
import Derived.Maps.Own
import Derived.DeepKeys5
import Derived.BigFrame
import Derived.WalkMore
import Derived.ScopeJumps
import Derived.StillTailTactics
import Derived.Stop.BytesEq
import Derived.WalkLawsBesides
import Derived.WalkSpells
import Derived.Outline
import Derived.Lib.Walk
import Derived.Lib.Hide
import Derived.Lib.Slices
import Derived.Lib.Strings
import Derived.RegionTactic
import Derived.LoopTactic
import Derived.Below
import Derived.IntWalk
import Derived.Deep.QuietTactic
import Derived.BigQuiet
import Derived.Deep.MidRow
import Derived.Maps.AppendAt
import Derived.Laws.Rows
import Derived.Laws.Tables
import Derived.Deep.WholeRow
import Derived.Deep.Cut
import Derived.Deep.CutRange
import Derived.Lib.SliceRun
import Derived.Laws.MakeOwn
import Derived.Deep.RegionLaw
import Derived.Deep.RegionLawGrows
import Derived.Deep.RegionHeld3
import Derived.RegionCalls
import Derived.Deep.RegionWith
import Derived.Deep.Light
import Derived.Laws.CopyOwn
import Derived.Laws.ResultCell
namespace Go.Proofs.Ytpmkdpjcpimhkaa
set_option linter.unusedSimpArgs false
set_option linter.unusedVariables false
set_option maxRecDepth 100000
open Go.RowKit
/- comeTo. -/
set_option maxHeartbeats 8000000 in
theorem come_any {D : Nat → Prop} {w : World} {g : Gr} {p : Option Addr} {c : Nat} (hg : GM D w g.ps p) (hn : NumOk g) :
    Calls Try.prog 33 #[.agg #[.int .i64 g.t, .int .i64 g.s, .int .i64 g.st, .slice p g.ps.length c]] w fun e w' => e = .returned (.int .u64 ((wd (fun k => (k : Int) < g.t ∨ Come g k) : Nat) : Int)) ∧ Below w.heap.size w w' := by
  have h1 := hn.t1; have h2 := hn.t2; have h3 := hn.s1; have h4 := hn.s2; have h5 := hn.st1; have h6 := hn.st2
  have hw0 := (Below.refl w.heap.size w).alloc (Nat.le_refl _) (.cells (gC g p c) 24)
  obtain ⟨k0, k1, k2, k3⟩ := gC_at (GB.new (w := w) (g := g) (p := p) (c := c))
  have hgu := hg.up hw0
  have hr : ∀ q ∈ g.ps, (0 ≤ q.hd ∧ q.hd < 64) ∧ ∀ x ∈ q.bd, 0 ≤ x ∧ x < 64 := fun q hq => ⟨by have := hn.hd q hq; omega, fun x hx => by have := hn.bd q hq x hx; omega⟩
  have hx0 : (2 ^ g.t.toNat - 1) < wmax := by rw [wd_below (by omega)]; exact wd_lt _
  have hx1 := w_pow (n := g.st.toNat) (by omega)
  have hor := b_or hx0 hx1
  have H1 := Lib.hid (fun w => below_any (n := g.t) (by omega) (by omega) w)
  have H3 := Lib.hid (fun w => one_any (n := g.st) (by omega) (by omega) w)
  have H2 := Lib.hid (fun (y : World) (hy : Below (w.alloc (.cells (gC g p c) 24)).heap.size (w.alloc (.cells (gC g p c) 24)) y) => settled_62 (w := y) (b := w.heap.size) (x := (2 ^ g.t.toNat - 1) ||| 2 ^ g.st.toNat) (F := comeS g.ps) (w_or hx0 hx1) (fun s hs => comeS_lt _ _ (fun q hq => (hr q hq).2) hs) (fun s k => comeS_up _ s k) (fun z s hz hs => clo62 (s := 0) (t := 0) (u := 0) ((hgu.up hy).up hz) (cell_up (cell_up k3 hy (by simp)) hz (by have := hy.size; simp at this; omega)) hr hs))
  have HS := Lib.hid (fun m => come_sem hn (m := m))
  have HW := Lib.hid hw0
  have hmf : ∀ (fn : Fn) (first cap : Array Value) (w : World), (Instr.makeFunc fn first cap).run Try.prog w = .ok (.func fn first cap) w := fun _ _ _ _ => rfl
  obtain ⟨b, hb⟩ : ∃ b, w.heap.size = b := ⟨_, rfl⟩
  have HBE := Lib.hid hb
  have hy9 : b < (w.alloc (.cells (gC g p c) 24)).heap.size := by simp; omega
  have HY := Lib.hid hy9
  rw [hb] at k0 k1 k2 k3 H2
  obtain ⟨Y, hY⟩ : ∃ Y, w.alloc (.cells (gC g p c) 24) = Y := ⟨_, rfl⟩
  rw [hY] at k0 k1 k2 k3 H2 HW HY
  unfold gC at hY
  generalize comeS g.ps = F at H2 HS
  obtain ⟨x0, hx0'⟩ : ∃ x0, 2 ^ g.t.toNat - 1 = x0 := ⟨_, rfl⟩
  rw [hx0'] at H1 H2 HS hor
  obtain ⟨x1, hx1'⟩ : ∃ x1, 2 ^ g.st.toNat = x1 := ⟨_, rfl⟩
  rw [hx1'] at H3 H2 HS hor
  generalize wd (fun k => (k : Int) < g.t ∨ Come g k) = R at HS ⊢
  clear h1 h2 h3 h4 h5 h6 hw0 hgu hr hx0 hx1 hx0' hx1' hg hn hy9
  go_enter Try.func33, Try.ntmps33
  go_upto_region 1 with fail
  refine at_world (fun v => v = Y) (by first | exact hY | rfl) fun y hy => ?_
  subst hy
  clear hb
  have HS0 : Hid ((fun z => Below y.heap.size y z) y.drew) := Lib.hid (below_drewN (Below.refl _ _) 1)
  refine wp_region_held_drew (S := fun z => Below y.heap.size y z) (by kernel_rfl) HS0.out (fun hHeld => ?_)
  refine wpAnyH_take (i := 0) (v := .pointer (some ⟨b, 0, none⟩)) rfl (by kernel_rfl) (by kernel_rfl) (by kernel_rfl) (fun _ _ _ h => h) (Or.inl ⟨by rfl, by (intro w hSw; (try dsimp only at hSw); go_simp)⟩) hHeld ?_
  (try simp only [Act.put, List.getElem_toArray, List.getElem_cons_zero, List.getElem_cons_succ, List.setIfInBounds_toArray, List.set_cons_zero, List.set_cons_succ])
  refine wpAnyH_take (i := 1) (v := .int .i64 g.t) rfl (by kernel_rfl) (by kernel_rfl) (by kernel_rfl) (fun _ _ _ h => h) (Or.inl ⟨by rfl, by (intro w9 hSw; (try dsimp only at hSw); have c9 := cell_up k0 hSw HY.out; go_simp)⟩) hHeld ?_
  (try simp only [Act.put, List.getElem_toArray, List.getElem_cons_zero, List.getElem_cons_succ, List.setIfInBounds_toArray, List.set_cons_zero, List.set_cons_succ])
  refine wpAnyH_take (i := 3) (v := .pointer (some ⟨b, 2, none⟩)) rfl (by kernel_rfl) (by kernel_rfl) (by kernel_rfl) (fun _ _ _ h => h) (Or.inl ⟨by rfl, by (intro w hSw; (try dsimp only at hSw); go_simp)⟩) hHeld ?_
  (try simp only [Act.put, List.getElem_toArray, List.getElem_cons_zero, List.getElem_cons_succ, List.setIfInBounds_toArray, List.set_cons_zero, List.set_cons_succ])
  refine wpAnyH_take (i := 4) (v := .int .i64 g.st) rfl (by kernel_rfl) (by kernel_rfl) (by kernel_rfl) (fun _ _ _ h => h) (Or.inl ⟨by rfl, by (intro w9 hSw; (try dsimp only at hSw); have c9 := cell_up k2 hSw HY.out; go_simp)⟩) hHeld ?_
  (try simp only [Act.put, List.getElem_toArray, List.getElem_cons_zero, List.getElem_cons_succ, List.setIfInBounds_toArray, List.set_cons_zero, List.set_cons_succ])
  refine wpAnyH_take (i := 7) (v := .func (.func 62) #[] #[.pointer (some ⟨b, 0, none⟩)]) rfl (by kernel_rfl) (by kernel_rfl) (by kernel_rfl) (fun _ _ _ h => h) (Or.inl ⟨by rfl, by (intro w hSw; (try dsimp only at hSw); go_simp)⟩) hHeld ?_
  (try simp only [Act.put, List.getElem_toArray, List.getElem_cons_zero, List.getElem_cons_succ, List.setIfInBounds_toArray, List.set_cons_zero, List.set_cons_succ])
  refine wpAnyH_ready (rs := [2]) (by kernel_rfl) (by simp) ?_
  refine AllReadyH.cons rfl (fun K hK => ?_) (AllReadyH.nil)
  rw [if_pos (by rfl)]
  go_wp2_with fail
  refine (H1.out _).mono ?_
  rintro _ w2 ⟨rfl, rfl⟩
  refine hK.out _ _ (hHeld) (fun hHeld2 => ?_)
  clear hHeld hK
  have hHeld := hHeld2
  clear hHeld2
  (try simp only [Act.put, List.getElem_toArray, List.getElem_cons_zero, List.getElem_cons_succ, List.setIfInBounds_toArray, List.set_cons_zero, List.set_cons_succ])
  refine wpAnyH_ready (rs := [5]) (by kernel_rfl) (by simp) ?_
  refine AllReadyH.cons rfl (fun K hK => ?_) (AllReadyH.nil)
  rw [if_pos (by rfl)]
  go_wp2_with fail
  refine (H3.out _).mono ?_
  rintro _ w2 ⟨rfl, rfl⟩
  refine hK.out _ _ (hHeld) (fun hHeld2 => ?_)
  clear hHeld hK
  have hHeld := hHeld2
  clear hHeld2
  (try simp only [Act.put, List.getElem_toArray, List.getElem_cons_zero, List.getElem_cons_succ, List.setIfInBounds_toArray, List.set_cons_zero, List.set_cons_succ])
  refine wpAnyH_take (i := 6) (v := .int .u64 ((x0 ||| x1 : Nat) : Int)) rfl (by kernel_rfl) (by kernel_rfl) (by kernel_rfl) (fun _ _ _ h => h) (Or.inl ⟨by rfl, by (intro w hSw; (try dsimp only at hSw); go_simp)⟩) hHeld ?_
  (try simp only [Act.put, List.getElem_toArray, List.getElem_cons_zero, List.getElem_cons_succ, List.setIfInBounds_toArray, List.set_cons_zero, List.set_cons_succ])
  refine wpAnyH_ready (rs := [8]) (by kernel_rfl) (by simp) ?_
  refine AllReadyH.cons rfl (fun K hK => ?_) (AllReadyH.nil)
  rw [if_pos (by rfl)]
  go_wp2_with fail
  refine (H2.out _ hHeld).mono ?_
  rintro _ w2 ⟨m, hm, rfl, hb⟩
  refine hK.out _ _ (Below.trans hHeld (hb.mono hHeld.size)) (fun hHeld2 => ?_)
  clear hHeld hK
  have hHeld := hHeld2
  clear hHeld2
  (try simp only [Act.put, List.getElem_toArray, List.getElem_cons_zero, List.getElem_cons_succ, List.setIfInBounds_toArray, List.set_cons_zero, List.set_cons_succ])
  refine wpAnyH_take (i := 9) (v := .int .u64 ((it F m (x0 ||| x1) : Nat) : Int)) rfl (by kernel_rfl) (by kernel_rfl) (by kernel_rfl) (fun _ _ _ h => h) (Or.inl ⟨by rfl, by (intro w hSw; (try dsimp only at hSw); go_simp)⟩) hHeld ?_
  (try simp only [Act.put, List.getElem_toArray, List.getElem_cons_zero, List.getElem_cons_succ, List.setIfInBounds_toArray, List.set_cons_zero, List.set_cons_succ])
  refine wpAnyH_done (by kernel_rfl) ?_ _
  have HB := Lib.hid (Below.trans HW.out (Below.mono hHeld HW.out.size))
  have HE := HS.out m hm
  rw [HE]
  clear hHeld hm HE
  go_wp2_with fail
  go_ret
  exact ⟨rfl, HB.out⟩
end Go.Proofs.Ytpmkdpjcpimhkaa
