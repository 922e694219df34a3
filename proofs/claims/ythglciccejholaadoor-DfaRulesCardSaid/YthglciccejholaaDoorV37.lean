/- Texts of package regs, one behind the other. -/
import Derived.Test.YthglciccejholaaDoorProg
import Derived.Test.YthglciccejholaaDoorV36
import Derived.Test.YthglciccejholaaDoorGi
import Derived.RangeFuncNested
import Derived.RangeFuncBound
import Derived.RangeFuncCalls
import Derived.RangeFuncLeaves
import Derived.RangeFuncBox
import Derived.Shelf.Abstract
import Derived.Shelf.RegionOpen
import Derived.WalkKit
import Derived.OwnWalkIn
import Derived.TacticsInMore
import Derived.LoopNIn
import Derived.LoopIn
import Derived.Below
import Derived.Lib.Hide
import Derived.Lib.Walk
import Derived.Test.YthglciccejholaaDoorV2
import Derived.Test.YthglciccejholaaDoorV5
section
/- Package dfa. -/
namespace Go.Proofs.YthglciccejholaaDoor
set_option linter.unusedSimpArgs false
set_option linter.unusedVariables false
set_option maxRecDepth 100000
open Go.RowKit Go.Shelf
/- The states that are alive. -/
open Go.Maps
theorem push_get (bk : List (List Int)) (j k : Nat) (i : Int) : (bkPush bk j i)[k]?.getD [] = if j = k ∧ j < bk.length then bk[k]?.getD [] ++ [i] else bk[k]?.getD [] := by
  unfold bkPush
  rw [List.getElem?_set]
  by_cases e : j = k
  · subst e
    rw [if_pos rfl]
    by_cases h : j < bk.length
    · rw [if_pos h, if_pos ⟨rfl, h⟩]; rfl
    · rw [if_neg h, if_neg (fun g => h g.2), List.getElem?_eq_none (by omega)]
  · rw [if_neg e, if_neg (fun g => e g.1)]
theorem push_mono {bk : List (List Int)} {j k : Nat} {i x : Int} (h : x ∈ bk[k]?.getD []) : x ∈ (bkPush bk j i)[k]?.getD [] := by
  rw [push_get]; split
  · exact List.mem_append_left _ h
  · exact h
theorem push_new {bk : List (List Int)} {j : Nat} {i : Int} (h : j < bk.length) : i ∈ (bkPush bk j i)[j]?.getD [] := by
  rw [push_get, if_pos ⟨rfl, h⟩]; simp
theorem push_len (bk : List (List Int)) (j : Nat) (i : Int) : (bkPush bk j i).length = bk.length := by unfold bkPush; simp
theorem fr_mono {i k : Nat} {x : Int} : ∀ (fr : List Int) (bk : List (List Int)), x ∈ bk[k]?.getD [] → x ∈ (bkFr bk fr i)[k]?.getD []
  | [], bk, h => h
  | y :: fr, bk, h => fr_mono fr _ (push_mono h)
theorem fr_new {i : Nat} : ∀ (fr : List Int) (bk : List (List Int)) (y : Int), y ∈ fr → y.toNat < bk.length → (i : Int) ∈ (bkFr bk fr i)[y.toNat]?.getD []
  | z :: fr, bk, y, h, hl => by
    rcases List.mem_cons.1 h with rfl | h
    · exact fr_mono fr _ (push_new hl)
    · exact fr_new fr _ y h (by rw [push_len]; exact hl)
theorem to_mono {bk : List (List Int)} {s : Nst} {i k : Nat} {x : Int} (h : x ∈ bk[k]?.getD []) : x ∈ (bkTo bk s i)[k]?.getD [] := by
  unfold bkTo; split
  · exact push_mono h
  · exact h
theorem to_len (bk : List (List Int)) (s : Nst) (i : Nat) : (bkTo bk s i).length = bk.length := by
  unfold bkTo; split
  · exact push_len ..
  · rfl
theorem bkT_in (ss : List Nst) (hi : InB ss) (hto : ∀ s ∈ ss, s.to < ss.length) : ∀ k, k ≤ ss.length → ∀ s (h : s < ss.length), s < k →
    (∀ y ∈ ss[s].fr, (s : Int) ∈ (bkT ss k).1[y.toNat]?.getD []) ∧ (0 ≤ ss[s].to → neU ss[s].u = true → (s : Int) ∈ (bkT ss k).1[ss[s].to.toNat]?.getD []) ∧ (0 ≤ ss[s].rl → s ∈ (bkT ss k).2)
  | 0, _, s, _, h => by omega
  | k + 1, hk, s, hs, h => by
    have hkl : k < ss.length := hk
    have hlen := (bkT_ok ss k (Nat.le_of_lt hkl)).1.len
    rw [bkT, List.getElem?_eq_getElem hkl]
    simp only [Option.getD_some]
    by_cases e : s = k
    · subst e
      refine ⟨fun y hy => fr_new _ _ y hy ?_, fun h1 h2 => fr_mono _ _ ?_, fun h1 => ?_⟩
      · rw [to_len, hlen]
        have := hi s y (by rw [frOf_get hs]; exact hy)
        omega
      · unfold bkTo
        rw [if_pos ⟨h1, h2⟩]
        refine push_new ?_
        rw [hlen]
        have := hto _ (List.getElem_mem hs)
        omega
      · rw [if_pos h1]; exact mem_rch.2 (.inr rfl)
    · obtain ⟨h1, h2, h3⟩ := bkT_in ss hi hto k (Nat.le_of_lt hkl) s hs (by omega)
      refine ⟨fun y hy => fr_mono _ _ (to_mono (h1 y hy)), fun a b => fr_mono _ _ (to_mono (h2 a b)), fun a => ?_⟩
      split
      · exact mem_rch.2 (.inl (h3 a))
      · exact h3 a
theorem frOf_B (bk : List (List Int)) (j : Nat) : frOf (ssB bk) j = bk[j]?.getD [] := by
  unfold frOf ssB
  rw [List.getElem?_map]
  cases bk[j]? with
  | none => rfl
  | some l => rfl
theorem mem_live (ss : List Nst) (x : Nat) : x ∈ liveL ss ↔ ∃ a ∈ (bkT ss ss.length).2, Rt (ssB (bkT ss ss.length).1) a x := by
  obtain ⟨h1, h2, h3⟩ := bkT_ok ss ss.length (Nat.le_refl _)
  unfold liveL
  exact (goF_spec (ssB (bkT ss ss.length).1) ss.length (fun s x hx => by
    rw [frOf_B] at hx
    cases e : (bkT ss ss.length).1[s]? with
    | none => rw [e] at hx; simp at hx
    | some l =>
      rw [e] at hx
      have := (h1.ok l (List.mem_of_getElem? e)).2 x hx
      omega) (ss.length + 1) 0 _ _ h2 h3 (by omega) (by omega) (fun b hb => ⟨b, hb, .refl b⟩) (fun a ha => ha) (fun j hj => by omega)).2 x
theorem hasU_ne {u : Nat → Int} {b : UInt8} (h : hasU u b = true) : neU u = true := by
  unfold neU
  cases hz : zeroU u with
  | false => rfl
  | true =>
    exfalso
    have hb : b.toNat < 256 := b.toNat_lt
    have hq : b.toNat / 64 < 4 := by omega
    unfold zeroU at hz
    unfold hasU at h
    simp only [Bool.and_eq_true, decide_eq_true_eq] at hz
    have : ∀ i, i < 4 → u i = 0 := fun i hi => by
      match i, hi with
      | 0, _ => simp_all
      | 1, _ => simp_all
      | 2, _ => simp_all
      | 3, _ => simp_all
    rw [this _ hq] at h
    simp at h
/-- What leads «to» something alive is alive. -/
structure LvP (ss : List Nst) : Prop where
  rl : ∀ s (h : s < ss.length), 0 ≤ ss[s].rl → s ∈ liveL ss
  fr : ∀ a b, Rt ss a b → b ∈ liveL ss → a ∈ liveL ss
  wy : ∀ c s t, toOf hasU ss c s = some t → t ∈ liveL ss → s ∈ liveL ss
theorem live_all {ss : List Nst} (hi : InB ss) (hto : ∀ s ∈ ss, s.to < ss.length) : LvP ss := by
  have hin := bkT_in ss hi hto ss.length (Nat.le_refl _)
  refine ⟨fun s hs h => (mem_live ss s).2 ⟨s, (hin s hs hs).2.2 h, .refl s⟩, fun a b h => ?_, fun c s t h ht => ?_⟩
  · induction h with
    | refl => exact id
    | step h1 x hx hc ih =>
      rename_i b0 c0
      intro hb
      refine ih ?_
      obtain ⟨a0, ha, hr⟩ := (mem_live ss _).1 hb
      have hb0 : b0 < ss.length := by
        unfold frOf at hx
        cases e : ss[b0]? with
        | none => rw [e] at hx; cases hx
        | some z => exact (List.getElem?_eq_some_iff.1 e).1
      rw [frOf_get hb0] at hx
      refine (mem_live ss _).2 ⟨a0, ha, .step hr (b0 : Int) ?_ (by simp)⟩
      rw [frOf_B, hc]
      exact (hin b0 hb0 hb0).1 x hx
  · obtain ⟨a0, ha, hr⟩ := (mem_live ss _).1 ht
    unfold toOf at h
    cases e : ss[s]? with
    | none => rw [e] at h; cases h
    | some z =>
      rw [e] at h
      simp only at h
      split at h
      · rename_i h2
        obtain ⟨hs, rfl⟩ := List.getElem?_eq_some_iff.1 e
        cases h
        refine (mem_live ss _).2 ⟨a0, ha, .step hr (s : Int) ?_ (by simp)⟩
        rw [frOf_B]
        exact (hin s hs hs).2.1 h2.1 (hasU_ne h2.2)
      · cases h
end Go.Proofs.YthglciccejholaaDoor
end
section
/- Package dfa. -/
namespace Go.Proofs.YthglciccejholaaDoor
set_option linter.unusedSimpArgs false
set_option linter.unusedVariables false
set_option maxRecDepth 100000
open Go.RowKit Go.Shelf
/- span. -/
open Go.Maps
def w4 (f : Nat → Bool) : Array Value := #[.int .u64 (W f 0), .int .u64 (W f 1), .int .u64 (W f 2), .int .u64 (W f 3)]
theorem w4_get (f : Nat → Bool) : ∀ {i : Nat}, i < 4 → (w4 f)[i]? = some (.int .u64 (W f i))
  | 0, _ => rfl
  | 1, _ => rfl
  | 2, _ => rfl
  | 3, _ => rfl
theorem w4_put (f : Nat → Bool) {s : Nat} (hs : s < 256) : (w4 f).setIfInBounds (s / 64) (.int .u64 (W (fun x => f x || x == s) (s / 64))) = w4 (fun x => f x || x == s) := by
  apply Array.ext_getElem?
  intro i
  by_cases hi : i < 4
  · rw [w4_get _ hi, Array.getElem?_setIfInBounds]
    split
    · rename_i e
      subst e
      rw [if_pos (by show _ < 4; omega)]
    · rename_i e
      rw [w4_get _ hi, W_skip f i s (fun k hk => by omega)]
  · rw [Array.getElem?_eq_none (by rw [Array.size_setIfInBounds]; show 4 ≤ i; omega), Array.getElem?_eq_none (by show 4 ≤ i; omega)]
theorem info24s : (Tryd.prog.info? 24).map (fun i => (i.zero, i.size)) = some (some (.agg #[.int .u64 0, .int .u64 0, .int .u64 0, .int .u64 0]), 4) := by kernel_rfl
theorem info24t : (Tryd.prog.info? 24).map (·.size) = some 4 := by kernel_rfl
def fS (lo c x : Nat) : Bool := decide (lo ≤ x) && decide (x < c) && decide (x < 256)
theorem fS_step {lo c : Nat} (h : lo ≤ c) (hc : c < 256) : (fun x => fS lo c x || x == c) = fS lo (c + 1) := by
  funext x
  unfold fS
  rw [Bool.eq_iff_iff]
  simp
  omega
theorem fS_zero (lo : Nat) : w4 (fS lo lo) = #[.int .u64 0, .int .u64 0, .int .u64 0, .int .u64 0] := by
  have h : fS lo lo = fun _ => false := by funext x; unfold fS; rw [Bool.eq_iff_iff]; simp; omega
  rw [h]
  unfold w4
  rw [W_no, W_no, W_no, W_no]
  rfl
theorem fS_end (lo hi : Nat) : .agg (w4 (fS lo (hi + 1))) = uV (uR lo hi) := by
  have h : fS lo (hi + 1) = fun b => decide (lo ≤ b) && decide (b ≤ hi) && decide (b < 256) := by funext x; unfold fS; rw [Bool.eq_iff_iff]; simp; omega
  rw [h]
  rfl
set_option maxHeartbeats 8000000 in
theorem span_any {w : World} {lo hi : Nat} (hle : lo ≤ hi) (hhi : hi < 256) :
    Calls Tryd.prog 92 #[.int .u8 (lo : Nat), .int .u8 (hi : Nat)] w fun e w' => e = .returned (uV (uR lo hi)) ∧ Below w.heap.size w w' := by
  have hz := (zero_of_info info24s).1
  obtain ⟨b4, hb4⟩ : ∃ b, w.heap.size = b := ⟨_, rfl⟩
  have S0 := Lib.hid ((Sep.start w).allocAt hb4 (.cells #[.int .u64 0, .int .u64 0, .int .u64 0, .int .u64 0] 24))
  obtain ⟨b5, hb5⟩ : ∃ b, (w.alloc (.cells #[.int .u64 0, .int .u64 0, .int .u64 0, .int .u64 0] 24)).heap.size = b := ⟨_, rfl⟩
  have S1 := Lib.hid (S0.out.allocAt hb5 (.cells #[.int .u64 0, .int .u64 0, .int .u64 0, .int .u64 0] 24))
  have hb3 : b4 + 1 = b5 := by rw [← hb4, ← hb5]; simp
  have hwl : IntKind.i64.wrap (lo : Int) = (lo : Int) := IntWalk.i64_in _ (by omega)
  have hwh : IntKind.i64.wrap (hi : Int) = (hi : Int) := IntWalk.i64_in _ (by omega)
  go_enter Tryd.func92, Tryd.ntmps92
  go_upto_region 2 with fail
  refine at_world (fun v => Sep w.heap.size w v [.box b5 (.cells (w4 (fS lo lo)) 24), .box b4 (.cells #[.int .u64 0, .int .u64 0, .int .u64 0, .int .u64 0] 24)]) (by rw [fS_zero]; exact S1.out) fun y1 hy1 => ?_
  try simp only [hb3]
  have S2 := Lib.hid hy1
  clear S0 S1 hy1 hb4 hb5 hb3 hz
  go_wp2_with fail
  go_loopw [6] (fun i wr => ∃ c : Nat, i = .int .i64 (c : Nat) ∧ lo ≤ c ∧ c ≤ hi + 1 ∧ Hid (Sep w.heap.size w wr [.box b5 (.cells (w4 (fS lo c)) 24), .box b4 (.cells #[.int .u64 0, .int .u64 0, .int .u64 0, .int .u64 0] 24)])) (fun i _ => hi + 1 - (intOf i).toNat)
  case atStart => exact ⟨lo, rfl, by omega, by omega, S2⟩
  case round =>
    clear S2
    obtain ⟨s, rfl, hs1, hs2, HS⟩ := hrel
    obtain ⟨Z, rfl⟩ : ∃ W : World, W = wr := ⟨_, rfl⟩
    by_cases hlt : s ≤ hi
    · have hltI : (s : Int) ≤ (hi : Int) := by omega
      have hr := W_with (fS lo s) (s / 64) (s % 64) (Nat.mod_lt _ (by omega))
      rw [Nat.div_add_mod, fS_step hs1 (by omega)] at hr
      have hS2 := (HS.out.drew).setc (s / 64) (.int .u64 (W (fun x => fS lo s x || x == s) (s / 64)))
      rw [w4_put _ (by omega), fS_step hs1 (by omega)] at hS2
      have SC := Lib.hid hS2
      generalize hv : ((W (fS lo (s + 1)) (s / 64) : Nat) : Int) = v at hr SC
      have h1 : ¬ (s : Int) / 64 < 0 := by omega
      have h1' : 0 ≤ (s : Int) / 64 := by omega
      have h2 : (s : Int) / 64 < 4 := by omega
      have h3 : ((s : Int) / 64).toNat = s / 64 := by omega
      have h4 : ((s : Int) % 64).toNat = s % 64 := by omega
      have hc' : Z.drew.cell? ⟨b5, s / 64, none⟩ = some (.int .u64 (W (fS lo s) (s / 64))) := (HS.out.drew.boxAt (s / 64)).trans (w4_get _ (by omega))
      have hf' : Z.drew.frozen? ⟨b5, s / 64, none⟩ = false := HS.out.drew.fz _
      clear hv hS2
      have i1 : IntKind.i64.wrap ((s : Int) / 64) = (s : Int) / 64 := IntWalk.i64_in _ (by omega)
      have i2 : IntKind.i64.wrap ((s : Int) % 64) = (s : Int) % 64 := IntWalk.i64_in _ (by omega)
      have h5 : (s : Int).tmod 64 = (s : Int) % 64 := Int.tmod_eq_emod_of_nonneg (by omega)
      have h6 : ¬ (s : Int) % 64 < 0 := by omega
      have h7 : 0 ≤ (s : Int) % 64 := by omega
      have h8 : (s : Int) % 64 < 64 := by omega
      go_upto_region 5 with fail
      go_still_tail 11, (by kernel_rfl)
      change wpList _ _ _ _ _ Z.drew
      go_wp2_with fail
      go_roundw
      case rel => exact ⟨s + 1, by go_num, by omega, by omega, SC⟩
      case measure => first | (simp [intOf]; done) | (simp [intOf]; omega)
    · obtain rfl : s = hi + 1 := by omega
      have hltI : ¬ ((hi + 1 : Nat) : Int) ≤ (hi : Int) := by omega
      have HB5 := Lib.hid HS.out.at.2
      have HB4 := Lib.hid HS.out.tl.at.2
      have e5 := fS_end lo hi
      obtain ⟨R, hR⟩ : ∃ R, w4 (fS lo (hi + 1)) = R := ⟨_, rfl⟩
      have hRs : R.size = 4 := by rw [← hR]; rfl
      have hRo : R.all (·.oneCell') = true := by rw [← hR]; simp [w4, Value.oneCell']
      rw [hR] at HB5 HS e5
      have E5 := Lib.hid e5
      clear e5 hR
      go_wp2_with (first | (refine wpList_load_row rfl 24 (.tmp 5) rfl b5 rfl 24 R (0, 0) _ HB5.out Tryd.underlying24 rfl (by rw [info24t, hRs]) ?_) | (refine wpList_store_row rfl 24 (.tmp 4) (.tmp 26) rfl b4 R rfl rfl 24 _ HB4.out (by rw [info24t, hRs]) (by rw [hRs]; rfl) hRo ?_))
      refine bodyPost_ret (v := .agg R) (results_cell_row rfl _ _ b4 24 _ (0, 0) _ rfl (setRow_heap _ b4 _ _ 24 (0, 0) HB4.out) Tryd.underlying24 rfl (by rw [info24t, hRs])) rfl ⟨?_, (HS.out.tl.putRow R).bel⟩
      rw [E5.out]
end Go.Proofs.YthglciccejholaaDoor
end
section
/- Package dfa. -/
namespace Go.Proofs.YthglciccejholaaDoor
set_option linter.unusedSimpArgs false
set_option linter.unusedVariables false
set_option maxRecDepth 100000
open Go.RowKit Go.Shelf
/- The chapter's automaton, made. -/
open Go.Maps
theorem bone : Tryd.prog.built 73 [(1, .int .i64 (-1))] = some (stC uZ (-1) (.slice none 0 0) 0) := by kernel_rfl
theorem wpList_bone {ops : Array Oper} {rest : List Oper} {o : Oper} {a : Act} {w : World} {Q : Exit → Act → World → Prop} {x : Operand} (hg : o.guard = none) (ho : o.op = .build 73 #[(1, x)]) (hx : a.eval x = .int .i64 (-1))
    (h : wpList Tryd.prog ops Q rest (a.put o.dst (.agg (stC uZ (-1) (.slice none 0 0) 0))) w) : wpList Tryd.prog ops Q (o :: rest) a w := by
  refine wpList_build hg 73 _ ho ?_ ?_
  · simp [hx, bone]
  · simp [hx, bone]; exact h
theorem bfre1 (p : Option Addr) (n c : Nat) : Tryd.prog.built 73 [(1, .int .i64 (-1)), (2, .slice p n c), (3, .int .i64 1)] = some (stC uZ (-1) (.slice p n c) 1) := by kernel_rfl
theorem wpList_bfre1 {ops : Array Oper} {rest : List Oper} {o : Oper} {a : Act} {w : World} {Q : Exit → Act → World → Prop} {x y z : Operand} {p : Option Addr} {n c : Nat} (hg : o.guard = none) (ho : o.op = .build 73 #[(1, x), (2, y), (3, z)]) (hx : a.eval x = .int .i64 (-1)) (hy : a.eval y = .slice p n c) (hz : a.eval z = .int .i64 1)
    (h : wpList Tryd.prog ops Q rest (a.put o.dst (.agg (stC uZ (-1) (.slice p n c) 1))) w) : wpList Tryd.prog ops Q (o :: rest) a w := by
  refine wpList_build hg 73 _ ho ?_ ?_
  · simp [hx, hy, hz, bfre1]
  · simp [hx, hy, hz, bfre1]; exact h
theorem sv_A {w : World} {b1 b5 b6 : Nat} {ui uf ua : Nat → Int} (e1 : uR 105 105 = ui) (e2 : uR 102 102 = uf) (e3 : uR 97 122 = ua) (h6 : w.heap[b6]? = some (.cells #[.int .u64 (uZ 0), .int .u64 (uZ 1), .int .u64 (uZ 2), .int .u64 (uZ 3), .int .i64 (-1), .slice (some ⟨b1, 0, none⟩) 2 2, .int .i64 (-1), .int .u64 (ui 0), .int .u64 (ui 1), .int .u64 (ui 2), .int .u64 (ui 3), .int .i64 2, .slice none 0 0, .int .i64 (-1), .int .u64 (uf 0), .int .u64 (uf 1), .int .u64 (uf 2), .int .u64 (uf 3), .int .i64 3, .slice none 0 0, .int .i64 (-1), .int .u64 (uZ 0), .int .u64 (uZ 1), .int .u64 (uZ 2), .int .u64 (uZ 3), .int .i64 (-1), .slice none 0 0, .int .i64 0, .int .u64 (ua 0), .int .u64 (ua 1), .int .u64 (ua 2), .int .u64 (ua 3), .int .i64 5, .slice none 0 0, .int .i64 (-1), .int .u64 (uZ 0), .int .u64 (uZ 1), .int .u64 (uZ 2), .int .u64 (uZ 3), .int .i64 (-1), .slice (some ⟨b5, 0, none⟩) 1 1, .int .i64 1] 73 (0, 0)))
    (h5 : w.heap[b5]? = some (.cells #[.int .i64 4] 3 (0, 0))) (h1 : w.heap[b1]? = some (.cells #[.int .i64 1, .int .i64 4] 3 (0, 0))) : SV (fun b => b < w.heap.size) w ssA (.slice (some ⟨b6, 0, none⟩) 6 6) := by
  subst e1 e2 e3
  have hlt : ∀ {b : Nat} {o : Obj}, w.heap[b]? = some o → b < w.heap.size := fun h => (Array.getElem?_eq_some_iff.1 h).1
  refine ⟨_, _, rfl, fun _ => ⟨b6, 0, rfl, hlt h6, fun i hi => ?_⟩⟩
  have hi6 : i < 6 := hi
  match i, hi, hi6 with
  | 0, _, _ =>
    refine ⟨some ⟨b1, 0, none⟩, 2, ⟨_, _, rfl, fun _ => ⟨b1, 0, rfl, hlt h1, fun i hi => by rw [cell_of_row w b1 _ _ 3 (0, 0) h1]; match i, hi with | 0, _ => rfl | 1, _ => rfl⟩⟩, fun j y hj => ?_⟩
    rw [cell_of_row w b6 _ _ 73 (0, 0) h6]
    match j, hj with
    | 0, hj => exact hj
    | 1, hj => exact hj
    | 2, hj => exact hj
    | 3, hj => exact hj
    | 4, hj => exact hj
    | 5, hj => exact hj
    | 6, hj => exact hj
    | j + 7, hj => simp [stC] at hj
  | 1, _, _ =>
    refine ⟨none, 0, IV.nil _ _ _ _, fun j y hj => ?_⟩
    rw [cell_of_row w b6 _ _ 73 (0, 0) h6]
    match j, hj with
    | 0, hj => exact hj
    | 1, hj => exact hj
    | 2, hj => exact hj
    | 3, hj => exact hj
    | 4, hj => exact hj
    | 5, hj => exact hj
    | 6, hj => exact hj
    | j + 7, hj => simp [stC] at hj
  | 2, _, _ =>
    refine ⟨none, 0, IV.nil _ _ _ _, fun j y hj => ?_⟩
    rw [cell_of_row w b6 _ _ 73 (0, 0) h6]
    match j, hj with
    | 0, hj => exact hj
    | 1, hj => exact hj
    | 2, hj => exact hj
    | 3, hj => exact hj
    | 4, hj => exact hj
    | 5, hj => exact hj
    | 6, hj => exact hj
    | j + 7, hj => simp [stC] at hj
  | 3, _, _ =>
    refine ⟨none, 0, IV.nil _ _ _ _, fun j y hj => ?_⟩
    rw [cell_of_row w b6 _ _ 73 (0, 0) h6]
    match j, hj with
    | 0, hj => exact hj
    | 1, hj => exact hj
    | 2, hj => exact hj
    | 3, hj => exact hj
    | 4, hj => exact hj
    | 5, hj => exact hj
    | 6, hj => exact hj
    | j + 7, hj => simp [stC] at hj
  | 4, _, _ =>
    refine ⟨none, 0, IV.nil _ _ _ _, fun j y hj => ?_⟩
    rw [cell_of_row w b6 _ _ 73 (0, 0) h6]
    match j, hj with
    | 0, hj => exact hj
    | 1, hj => exact hj
    | 2, hj => exact hj
    | 3, hj => exact hj
    | 4, hj => exact hj
    | 5, hj => exact hj
    | 6, hj => exact hj
    | j + 7, hj => simp [stC] at hj
  | 5, _, _ =>
    refine ⟨some ⟨b5, 0, none⟩, 1, ⟨_, _, rfl, fun _ => ⟨b5, 0, rfl, hlt h5, fun i hi => by rw [cell_of_row w b5 _ _ 3 (0, 0) h5]; match i, hi with | 0, _ => rfl⟩⟩, fun j y hj => ?_⟩
    rw [cell_of_row w b6 _ _ 73 (0, 0) h6]
    match j, hj with
    | 0, hj => exact hj
    | 1, hj => exact hj
    | 2, hj => exact hj
    | 3, hj => exact hj
    | 4, hj => exact hj
    | 5, hj => exact hj
    | 6, hj => exact hj
    | j + 7, hj => simp [stC] at hj
set_option maxHeartbeats 16000000 in
theorem known_any {w : World} : Calls Tryd.prog 52 #[] w fun e w' => (∃ q c, e = .returned (nV 0 q 6 c) ∧ SV (fun b => b < w'.heap.size) w' ssA (.slice q 6 c)) ∧ Below w.heap.size w w' := by
  have hz := (zero_of_info (show (Tryd.prog.info? 33).map (fun i => (i.zero, i.size)) = some (some (.agg #[.int .i64 0, .slice none 0 0]), 2) by kernel_rfl)).1
  obtain ⟨b0, hb0⟩ : ∃ b, w.heap.size = b := ⟨_, rfl⟩
  have S0 := Lib.hid ((Sep.start w).allocAt hb0 (.cells #[.int .i64 0, .slice none 0 0] 33))
  have HSP := Lib.hid (fun (z : World) (lo hi : Nat) (h1 : lo ≤ hi) (h2 : hi < 256) => span_any (w := z) h1 h2)
  obtain ⟨ui, hui⟩ : ∃ u, uR 105 105 = u := ⟨_, rfl⟩
  obtain ⟨uf, huf⟩ : ∃ u, uR 102 102 = u := ⟨_, rfl⟩
  obtain ⟨ua, hua⟩ : ∃ u, uR 97 122 = u := ⟨_, rfl⟩
  have HI := Lib.hid (fun (z : World) => HSP.out z 105 105 (by decide) (by decide))
  have HF := Lib.hid (fun (z : World) => HSP.out z 102 102 (by decide) (by decide))
  have HA := Lib.hid (fun (z : World) => HSP.out z 97 122 (by decide) (by decide))
  rw [hui] at HI
  rw [huf] at HF
  rw [hua] at HA
  have HU := Lib.hid (And.intro hui (And.intro huf hua))
  clear hui huf hua HSP
  go_enter Tryd.func52, Tryd.ntmps52
  go_upto_region 1 with fail
  refine at_world (fun v => Sep w.heap.size w v [.box b0 (.cells #[.int .i64 0, .slice none 0 0] 33)]) S0.out fun y hy => ?_
  have S1 := Lib.hid hy
  clear S0 hy hb0 hz
  obtain ⟨b1, hb1⟩ : ∃ b, y.heap.size = b := ⟨_, rfl⟩
  have S2 := Lib.hid (S1.out.allocAt hb1 (.cells #[.int .i64 1, .int .i64 4] 3))
  rw [show ((105 : Nat) : Int) = 105 from rfl] at HI
  rw [show ((102 : Nat) : Int) = 102 from rfl] at HF
  rw [show ((97 : Nat) : Int) = 97 from rfl, show ((122 : Nat) : Int) = 122 from rfl] at HA
  go_wp2_with (first | (refine wpList_bfree (p := some ⟨b1, 0, none⟩) (n := 2) (c := 2) rfl rfl rfl rfl rfl ?_; unfold stC))
  refine (HI.out _).mono ?_
  rintro _ w2 ⟨rfl, hb⟩
  have S3 := Lib.hid (S2.out.up hb)
  clear hb S1 S2 HI hb1
  go_wp2_with (first | (refine wpList_bset (u := ui) (t := 2) rfl rfl rfl rfl rfl ?_; unfold stC))
  refine (HF.out _).mono ?_
  rintro _ w3 ⟨rfl, hb⟩
  have S4 := Lib.hid (S3.out.up hb)
  clear hb S3 HF
  go_wp2_with (first | (refine wpList_bset (u := uf) (t := 3) rfl rfl rfl rfl rfl ?_; unfold stC) | (refine wpList_bone rfl rfl rfl ?_; unfold stC))
  refine (HA.out _).mono ?_
  rintro _ w4 ⟨rfl, hb⟩
  have S5 := Lib.hid (S4.out.up hb)
  clear hb S4 HA
  obtain ⟨b5, hb5⟩ : ∃ b, w4.heap.size = b := ⟨_, rfl⟩
  have S6 := Lib.hid (S5.out.allocAt hb5 (.cells #[.int .i64 4] 3))
  have hb6 : (w4.alloc (.cells #[.int .i64 4] 3)).heap.size = b5 + 1 := by rw [← hb5]; simp
  have S7 := Lib.hid (S6.out.allocAt hb6 (.cells #[.int .u64 (uZ 0), .int .u64 (uZ 1), .int .u64 (uZ 2), .int .u64 (uZ 3), .int .i64 (-1), .slice (some ⟨b1, 0, none⟩) 2 2, .int .i64 (-1), .int .u64 (ui 0), .int .u64 (ui 1), .int .u64 (ui 2), .int .u64 (ui 3), .int .i64 2, .slice none 0 0, .int .i64 (-1), .int .u64 (uf 0), .int .u64 (uf 1), .int .u64 (uf 2), .int .u64 (uf 3), .int .i64 3, .slice none 0 0, .int .i64 (-1), .int .u64 (uZ 0), .int .u64 (uZ 1), .int .u64 (uZ 2), .int .u64 (uZ 3), .int .i64 (-1), .slice none 0 0, .int .i64 0, .int .u64 (ua 0), .int .u64 (ua 1), .int .u64 (ua 2), .int .u64 (ua 3), .int .i64 5, .slice none 0 0, .int .i64 (-1), .int .u64 (uZ 0), .int .u64 (uZ 1), .int .u64 (uZ 2), .int .u64 (uZ 3), .int .i64 (-1), .slice (some ⟨b5, 0, none⟩) 1 1, .int .i64 1] 73))
  have HB0 := Lib.hid ((S7.out.to 3 (by simp)))
  simp only [List.getElem_cons_succ, List.getElem_cons_zero, List.eraseIdx] at HB0
  have HX0 := Lib.hid HB0.out.at.2
  have S8 := Lib.hid (HB0.out.putRow #[.int .i64 0, .slice (some ⟨b5 + 1, 0, none⟩) 6 6])
  have hi33 : (Tryd.prog.info? 33).map (·.size) = some 2 := by kernel_rfl
  go_wp2_with (first | (refine wpList_bset (u := ua) (t := 5) rfl rfl rfl rfl rfl ?_; unfold stC) | (refine wpList_bfre1 (p := some ⟨b5, 0, none⟩) (n := 1) (c := 1) rfl rfl rfl rfl rfl ?_; unfold stC) | (refine wpList_store_row rfl 33 (.tmp 0) (.tmp 13) rfl b0 #[.int .i64 0, .slice (some ⟨b5 + 1, 0, none⟩) 6 6] rfl rfl 33 _ HX0.out (by rw [hi33]; rfl) rfl (by simp [Value.oneCell']) ?_))
  refine bodyPost_ret (v := nV 0 (some ⟨b5 + 1, 0, none⟩) 6 6) (results_cell_row rfl _ _ b0 33 #[.int .i64 0, .slice (some ⟨b5 + 1, 0, none⟩) 6 6] (0, 0) _ rfl ?h33 Tryd.underlying33 rfl (by rw [hi33]; rfl)) rfl ?_
  case h33 => exact S8.out.at.2
  refine ⟨⟨some ⟨b5 + 1, 0, none⟩, 6, rfl, ?_⟩, S8.out.bel⟩
  obtain ⟨e1, e2, e3⟩ := HU.out
  exact sv_A e1 e2 e3 S8.out.tl.at.2 S8.out.tl.tl.at.2 S8.out.tl.tl.tl.at.2
end Go.Proofs.YthglciccejholaaDoor
end
