/- Package grams. -/
import Derived.Test.YtpmkdpjcpimhkaaProg
import Derived.Test.YtpmkdpjcpimhkaaHa
import Derived.Deep.SlicePairs
import Derived.Deep.Slices
import Derived.Laws.IdiomArrays
import Derived.OpenShut
import Derived.WideBlind
import Derived.Great.BuildSlice
import Derived.WalkKit
import Derived.Maps.OwnSet
import Derived.Maps.OwnOps
import Derived.Maps.Own
import Derived.DeepKeys5
import Derived.BigFrame
import Derived.WalkMore
import Derived.ScopeJumps
import Derived.StillTailTactics
import Derived.Stop.BytesEq
import Derived.WalkLawsBesides
import Derived.WalkSpells
import Derived.Outline
import Derived.Lib.Walk
import Derived.Lib.Hide
import Derived.Lib.Slices
import Derived.Lib.Strings
import Derived.RegionTactic
import Derived.LoopTactic
import Derived.Below
import Derived.IntWalk
import Derived.Deep.QuietTactic
import Derived.BigQuiet
import Derived.Deep.MidRow
import Derived.Maps.AppendAt
import Derived.Laws.Rows
import Derived.Laws.Tables
import Derived.Deep.WholeRow
import Derived.Deep.Cut
import Derived.Deep.CutRange
import Derived.Lib.SliceRun
import Derived.Laws.MakeOwn
import Derived.Deep.RegionLaw
import Derived.Deep.RegionLawGrows
import Derived.Deep.RegionHeld3
import Derived.RegionCalls
import Derived.Deep.RegionWith
import Derived.Deep.Light
import Derived.Laws.CopyOwn
import Derived.Laws.ResultCell
namespace Go.Proofs.Ytpmkdpjcpimhkaa
set_option linter.unusedSimpArgs false
set_option linter.unusedVariables false
set_option maxRecDepth 100000
open Go.RowKit
/- of; members; slices.Equal. -/
open Go.Maps
theorem ofW_take (l : List Int) (j : Nat) (h : j < l.length) : ∀ s, ofW (l.take (j + 1)) s = ofW (l.take j) s ||| 2 ^ l[j].toNat := by
  induction l generalizing j with
  | nil => simp at h
  | cons a l ih =>
    intro s
    cases j with
    | zero => simp [ofW]
    | succ j => simp only [List.take_succ_cons, ofW, List.getElem_cons_succ]; exact ih j (by simpa using h) _
set_option maxHeartbeats 4000000 in
theorem of_any {D : Nat → Prop} {w : World} {l : List Int} {p : Option Addr} {c : Nat} (hr : ∀ x ∈ l, 0 ≤ x ∧ x < 64) (hl : l.length ≤ 9223372036854775806) (h : IV D w l (.slice p l.length c)) :
    Calls Try.prog 64 #[.slice p l.length c] w fun e w' => e = .returned (.int .u64 ((ofW l 0 : Nat) : Int)) ∧ w' = w := by
  have HI := Lib.hid h
  have HR := Lib.hid hr
  have hoA : ∀ j, ofW (l.take j) 0 < wmax := fun j => ofW_lt _ _ (fun x hx => hr x (List.mem_of_mem_take hx)) (by decide)
  have HA := Lib.hid hoA
  clear h hr hoA
  obtain ⟨R, hR⟩ : ∃ R, ofW l 0 = R := ⟨_, rfl⟩
  have HRR := Lib.hid hR
  rw [hR]
  clear hR
  go_enter Try.func64, Try.ntmps64
  go_wp2_with fail
  go_loopw [3, 8] (fun s i wr => ∃ j : Nat, i = .int .i64 (j : Nat) ∧ s = .int .u64 ((ofW (l.take j) 0 : Nat) : Int) ∧ j ≤ l.length ∧ Hid (wr = w)) (fun _ i _ => l.length - (intOf i).toNat)
  case atStart => exact ⟨0, rfl, rfl, by omega, Lib.hid rfl⟩
  case round =>
  obtain ⟨j, rfl, rfl, hj, HW⟩ := hrel
  obtain rfl := HW.out
  clear HW
  by_cases hlt : j < l.length
  · have hltI : (j : Int) < (l.length : Int) := by omega
    have hjI : ¬ (j : Int) < 0 := by omega
    obtain ⟨p', c', he, hh⟩ := HI.out
    injection he with e1 e2 e3
    subst e1 e3
    obtain ⟨b, o, rfl, hDb, hx⟩ := hh (by intro e; rw [e] at hlt; simp at hlt)
    have cx := hx j hlt
    have hx0 := HR.out l[j] (List.getElem_mem hlt)
    have hst := ofW_take l j hlt 0
    have hoj := HA.out j
    obtain ⟨x, hxx⟩ : ∃ x, l[j] = x := ⟨_, rfl⟩
    rw [hxx] at cx hx0 hst
    have H1 := Lib.hid (fun w => one_any hx0.1 hx0.2 w)
    have hor := b_or hoj (w_pow (n := x.toNat) (by omega))
    rw [← hst] at hor
    have HL := Lib.hid (show ((ofW (l.take (j + 1)) 0 : Nat) : Int) = ((ofW (l.take (j + 1)) 0 : Nat) : Int) from rfl)
    clear hh hx hDb e2 hxx hst hoj
    go_wp2_with fail
    refine (H1.out _).mono ?_
    rintro _ w1 ⟨rfl, rfl⟩
    obtain ⟨z, hz⟩ : ∃ z, (2 : Nat) ^ x.toNat = z := ⟨_, rfl⟩
    rw [hz] at hor ⊢
    clear hz H1
    go_wp2_with fail
    go_roundw
    case rel => exact ⟨j + 1, by go_num, rfl, by omega, Lib.hid trivial⟩
    case measure => simp [intOf]; omega
  · obtain rfl : j = l.length := by omega
    have hltI : ¬ (l.length : Int) < (l.length : Int) := by omega
    have hR := HRR.out
    rw [List.take_length, hR]
    clear hlt
    go_wp2_with fail
    go_ret
    exact ⟨rfl, rfl⟩
theorem new_cell (w : World) (v : Value) (t : TypeId) : ∀ j u, [v][j]? = some u → (w.alloc (.cells #[v] t)).cell? ((⟨w.heap.size, 0, none⟩ : Addr).add j) = some u := fun j u hj => by
  rw [Addr.add_mid, cell_of_row _ w.heap.size (0 + j) _ t (0, 0) (heap_alloc_last w _), Nat.zero_add]
  rw [← hj]; simp
def mW (s k : Nat) : List Int := ((List.range k).filter fun x => s.testBit x).map fun x => ((x : Nat) : Int)
theorem mW_succ (s k : Nat) : mW s (k + 1) = if s.testBit k = true then mW s k ++ [(k : Int)] else mW s k := by
  unfold mW
  rw [List.range_succ, List.filter_append, List.map_append]
  split <;> rename_i h <;> simp [h]
theorem mW_len (s k : Nat) : (mW s k).length ≤ k := by
  unfold mW
  rw [List.length_map]
  exact Nat.le_trans (List.length_filter_le ..) (by rw [List.length_range]; exact Nat.le_refl _)
theorem zi_app (l : List Int) (x : Int) : zi (l ++ [x]) = zi l ++ [.int .i64 x] := by simp [zi]
set_option maxHeartbeats 4000000 in
theorem members_any {s : Nat} (hs : s < wmax) (w : World) :
    Calls Try.prog 48 #[.int .u64 (s : Nat)] w fun e w' => ∃ v, e = .returned v ∧ w'.ownsRow w.heap.size 3 1 v (mW s 64).length (zi (mW s 64)) ∧ Below w.heap.size w w' := by
  obtain ⟨i0, hi, hz0, hz1, hz2⟩ := info_parts info3b
  have HS := Lib.hid hs
  clear hs
  go_enter Try.func48, Try.ntmps48
  go_wp2_with fail
  go_loopw [3, 5] (fun v i wr => ∃ k : Nat, i = .int .i64 (k : Nat) ∧ k ≤ 64 ∧ Hid (wr.ownsRow w.heap.size 3 1 v (mW s k).length (zi (mW s k))) ∧ Hid (Below w.heap.size w wr)) (fun _ i _ => 64 - (intOf i).toNat)
  case atStart => exact ⟨0, rfl, by omega, Lib.hid ⟨rfl, .inl ⟨rfl, rfl⟩⟩, Lib.hid (Below.refl _ _)⟩
  case round =>
  obtain ⟨k, rfl, hk, HO, HB⟩ := hrel
  obtain ⟨wo, rfl⟩ : ∃ wo : World, wo = wr := ⟨_, rfl⟩
  obtain ⟨pv, cv, hv⟩ := rowF_ HO.out
  subst hv
  have hle := mW_len s k
  have hm := mW_succ s k
  obtain ⟨L, hL⟩ : ∃ L, mW s k = L := ⟨_, rfl⟩
  have HL := Lib.hid hL
  rw [hL] at HO hle hm ⊢
  obtain ⟨n, hn⟩ : ∃ n, L.length = n := ⟨_, rfl⟩
  have HN := Lib.hid hn
  rw [hn] at HO hle ⊢
  clear hL hn
  by_cases hlt : k < 64
  · have hltI : (k : Int) < 64 := by omega
    have H1 := Lib.hid (has_any HS.out (by omega : (0 : Int) ≤ (k : Int)) hltI wo)
    rw [Int.toNat_natCast] at H1
    generalize s.testBit k = tb at H1 hm
    go_wp2_with fail
    refine H1.out.mono ?_
    rintro _ w1 ⟨rfl, rfl⟩
    clear H1
    cases tb with
    | true =>
      rw [if_pos rfl] at hm
      have HM := Lib.hid hm
      clear hm
      have HSW := Lib.hid HB.out.size
      have HO2 := Lib.hid (World.ownsRow.alloc HO.out (.cells #[.int .i64 (k : Nat)] 3))
      have HSZ2 : Hid ((w1.alloc (.cells #[.int .i64 (k : Nat)] 3)).heap.size = w1.heap.size + 1) := Lib.hid (by simp)
      have HB2 := Lib.hid (HB.out.alloc HSW.out (.cells #[.int .i64 (k : Nat)] 3))
      go_wp2_with (at_builtin; refine wpList_append_own_at _ rfl (.tmp 11) (.tmp 13) 31 rfl w.heap.size 3 i0 (.int .i64 0) 1 8 Try.underlying31 hi hz0 hz1 hz2 rfl (by decide) _ n (zi L) rfl ?c0 ⟨w1.heap.size, 0, none⟩ 1 1 [.int .i64 (k : Nat)] rfl rfl ?c1 ?c2 ?c3 ?c4 ?c5 ?_)
      case c0 => exact HO2.out
      case c1 => exact new_cell w1 _ 3
      case c2 => simp [Value.oneCell']
      case c3 => unfold maxLen; omega
      case c4 => omega
      case c5 => have := HSW.out; have := HSZ2.out; omega
      intro v2 w2 hown2 hg2 _ _
      have HOE : Hid (w2.ownsRow w.heap.size 3 1 v2 (mW s (k + 1)).length (zi (mW s (k + 1)))) := Lib.hid (by
        rw [HM.out, zi_app, List.length_append, HN.out]; exact hown2)
      have HBE : Hid (Below w.heap.size w w2) := Lib.hid (below_grown HB2.out hg2 (fun g hg => (World.ownsRow.lt HO2.out g hg).1) (by have := HSW.out; have := HSZ2.out; omega))
      clear hown2 hg2 HO2 HSZ2 HB2 HSW HO HB HM
      go_wp2_with fail
      go_roundw
      case rel => exact ⟨k + 1, by go_num, by omega, HOE, HBE⟩
      case measure => simp [intOf]; omega
    | false =>
      rw [if_neg (by simp)] at hm
      have HO3 : Hid (w1.ownsRow w.heap.size 3 1 (.slice pv n cv) (mW s (k + 1)).length (zi (mW s (k + 1)))) := Lib.hid (by rw [hm, HN.out]; exact HO.out)
      clear hm HO
      go_wp2_with fail
      go_roundw
      case rel => exact ⟨k + 1, by go_num, by omega, HO3, HB⟩
      case measure => simp [intOf]; omega
  · obtain rfl : k = 64 := by omega
    have hltI : ¬ ((64 : Nat) : Int) < 64 := by omega
    have HO3 : Hid (wo.ownsRow w.heap.size 3 1 (.slice pv n cv) (mW s 64).length (zi (mW s 64))) := Lib.hid (by rw [HL.out, HN.out]; exact HO.out)
    clear hlt HO hm
    go_wp2_with fail
    go_ret
    exact ⟨_, rfl, HO3.out, HB.out⟩
end Go.Proofs.Ytpmkdpjcpimhkaa
