/- Packages dfa, mini, munch. -/
import Derived.Test.YtbdbnjbafampaaaProg
import Derived.Test.YtbdbnjbafampaaaDm
import Derived.WalkKit
import Derived.BigFrame
import Derived.Stop.BytesEq
import Derived.WalkLawsBesides
import Derived.WalkSpells
import Derived.Outline
import Derived.Lib.Walk
import Derived.Lib.Hide
import Derived.Lib.Slices
import Derived.Lib.Strings
import Derived.RegionTactic
import Derived.LoopTactic
import Derived.Below
import Derived.IntWalk
import Derived.Deep.QuietTactic
import Derived.BigQuiet
import Derived.Deep.MidRow
import Derived.Maps.AppendAt
import Derived.Laws.Rows
import Derived.Laws.Tables
import Derived.Deep.WholeRow
import Derived.Deep.Cut
import Derived.Deep.CutRange
import Derived.Lib.SliceRun
import Derived.Laws.MakeOwn
import Derived.Deep.RegionLaw
import Derived.Deep.RegionLawGrows
import Derived.Deep.RegionHeld3
import Derived.RegionCalls
import Derived.Deep.RegionWith
import Derived.Deep.Light
import Derived.Laws.CopyOwn
import Derived.Laws.ResultCell
namespace Go.Proofs.Ytbdbnjbafampaaa
set_option linter.unusedSimpArgs false
set_option linter.unusedVariables false
set_option maxRecDepth 100000
open Go.RowKit
/- LeftDfa. -/
set_option maxHeartbeats 16000000 in
theorem left_dfa {D : Nat → Prop} {w : World} {d : Df} {es ds : Array Value} {p q q2 : Option Addr} {c f f2 g cap B : Nat} (hd : DC d ds p q c f) (hm : DM D w d p q c f) (he : DC d es (some ⟨g, 0, none⟩) q2 cap f2) (ht : TD B w d g cap q2 f2) (hl1 : d.nx.length ≤ 1000000) (hl2 : d.rl.length ≤ 1000000) (hl3 : ∀ r ∈ d.nx, r.length ≤ 1000000) :
    Calls Try.prog 20 #[.agg es, .agg ds] w fun r w' => r = .returned (.bool true) ∧ Below w.heap.size w w' := by
  obtain ⟨k1, k2, s0⟩ := two_boxes w es ds
  have S0 := Lib.hid s0
  have K1 := Lib.hid k1
  have K2 := Lib.hid k2
  have HS1 := Lib.hid he.sz
  have HS2 := Lib.hid hd.sz
  have HCS := Lib.hid (samedfa_any he ((ht.dm hl1 hl2 hl3).up s0) hd (hm.up s0))
  rw [sameD_refl] at HCS
  have HLI := Lib.hid fun z (hz : Below w.heap.size w z) => left_ints (w := z) (pb := q) (cb := f) (v := .slice q2 d.rl.length f2) hl2 (hm.up hz).lt (ht.up hz).ti (hm.up hz).rl
  have HT := Lib.hid ht
  have HM := Lib.hid hm
  have A1 := Lib.hid he.nx
  have B1 := Lib.hid hd.nx
  have A2 := Lib.hid he.rl
  have B2 := Lib.hid hd.rl
  have HL3 := Lib.hid hl3
  obtain ⟨n, hn⟩ : ∃ n, d.nx.length = n := ⟨_, rfl⟩
  have HCAP : Hid (n + 3 ≤ cap) := Lib.hid (by
    obtain ⟨⟨zs, ms, h1, h2, h3, h4⟩, _⟩ := ht
    have hl : (zs ++ ms).length = d.nx.length + 3 := by
      rw [List.length_append, ← h1, List.length_map]
      have := congrArg List.length h3
      rw [List.length_map, mks_len] at this
      omega
    obtain ⟨g', cp, e, hc⟩ := row_own h4.2 (by omega)
    injection e with _ _ e3
    omega)
  rw [hn] at A1 B1 hl1
  have HN := Lib.hid hn
  clear hd hm he ht s0 k1 k2 hl2 hl3 hn
  have c1 : ¬ (cap : Int) < (n : Int) + 3 := by have := HCAP.out; omega
  have c2 : (n : Int) + 3 ≤ (cap : Int) := by have := HCAP.out; omega
  have c3 : n + 3 ≤ cap := HCAP.out
  have c4 : (0 : Int) ≤ (n : Int) + 3 := by omega
  have c5 : ¬ (n : Int) + 3 < 0 := by omega
  go_enter Try.func20, Try.ntmps20
  go_wp2_with (first | (refine wpList_load_Dg _ rfl w.heap.size es rfl K1.out HS1.out rfl ?_) | (refine wpList_load_Dg _ rfl (w.heap.size + 1) ds rfl K2.out HS2.out rfl ?_))
  refine HCS.out.mono ?_
  rintro _ w1 ⟨rfl, hb1⟩
  have S1 := Lib.hid (S0.out.trans (hb1.mono S0.out.size))
  have L1 := Lib.hid (K1.out.up hb1)
  have L2 := Lib.hid (K2.out.up hb1)
  have x1 : w1.cell? ⟨w.heap.size, 257, none⟩ = some (.slice (some ⟨g, 0, none⟩) n cap) := (L1.out.cell 257).trans A1.out
  have x2 : w1.cell? ⟨w.heap.size + 1, 257, none⟩ = some (.slice p n c) := (L2.out.cell 257).trans B1.out
  have x3 : w1.cell? ⟨w.heap.size, 258, none⟩ = some (.slice q2 d.rl.length f2) := (L1.out.cell 258).trans A2.out
  have x4 : w1.cell? ⟨w.heap.size + 1, 258, none⟩ = some (.slice q d.rl.length f) := (L2.out.cell 258).trans B2.out
  clear hb1 HCS S0 K1 K2
  go_wp2_with fail
  refine (HLI.out _ S1.out).mono ?_
  rintro _ w2 ⟨rfl, hb2⟩
  have S2 := Lib.hid (S1.out.trans (hb2.mono S1.out.size))
  have M1 := Lib.hid (L1.out.up hb2)
  have M2 := Lib.hid (L2.out.up hb2)
  have x1 : w2.cell? ⟨w.heap.size, 257, none⟩ = some (.slice (some ⟨g, 0, none⟩) n cap) := (M1.out.cell 257).trans A1.out
  have x2 : w2.cell? ⟨w.heap.size + 1, 257, none⟩ = some (.slice p n c) := (M2.out.cell 257).trans B1.out
  clear hb2 HLI S1 L1 L2 x3 x4
  go_wp2_with fail
  clear x1 x2
  go_loopw [6] (fun i wr => ∃ k : Nat, k ≤ 3 ∧ i = .int .i64 (k : Nat) ∧ Hid (BX wr w.heap.size es) ∧ Hid (BX wr (w.heap.size + 1) ds) ∧ Hid (Below w.heap.size w wr)) (fun i _ => 3 - (intOf i).toNat)
  case atStart => exact ⟨0, by omega, rfl, M1, M2, S2⟩
  case round =>
  clear S2 M1 M2
  obtain ⟨k, hk, rfl, L1, L2, HS⟩ := hrel
  have x2 : wr.cell? ⟨w.heap.size + 1, 257, none⟩ = some (.slice p n c) := (L2.out.cell 257).trans B1.out
  by_cases hk3 : k < 3
  · have hk3I : (k : Int) < 3 := by omega
    have hmk : ∃ z : Ni, z.1 = [-7000 - (k : Int)] ∧ TR B wr z ∧ wr.cell? ⟨g, n + k, none⟩ = some (nV z) := by
      obtain ⟨⟨zs, ms, h1, h2, h3, h4⟩, _⟩ := (HT.out.up HS.out)
      have hl1 : zs.length = n := by rw [← HN.out, ← h1, List.length_map]
      have hl2 : ms.length = 3 := by
        have := congrArg List.length h3
        rwa [List.length_map, mks_len] at this
      have hkm : k < ms.length := by omega
      refine ⟨ms[k], ?_, (h4.1 _ (List.mem_append_right _ (List.getElem_mem hkm))).1, ?_⟩
      · have := congrArg (fun l => l[k]?) h3
        simp only [List.getElem?_map, List.getElem?_eq_getElem hkm, Option.map_some, mks, List.getElem?_range hk3] at this
        exact Option.some.inj this
      · have := tn_cell h4 (n + k) (by simp; omega)
        rw [List.getElem_append_right (by omega)] at this
        rw [this]
        congr 2
        simp [hl1]
    obtain ⟨z, hz1, hz2, hz3⟩ := hmk
    have hlen : z.1.length = 1 := by rw [hz1]; rfl
    have hiv := hz2.iv
    obtain ⟨zv, hzv⟩ : ∃ zv, nV z = zv := ⟨_, rfl⟩
    have hform : ∃ pz cz, zv = .slice pz 1 cz := ⟨_, _, by rw [← hzv, nV, hlen]⟩
    obtain ⟨pz, cz, rfl⟩ := hform
    rw [hzv] at hz3 hiv
    rw [hz1] at hiv
    have hgl := hz2.lt
    have HIV := Lib.hid hiv
    have hy1 : (wr.alloc (.cells #[.int .i64 (-7000 - (k : Int))] 3)).heap.size = wr.heap.size + 1 := by simp
    have hb0 := (Below.refl wr.heap.size wr).alloc (Nat.le_refl _) (.cells #[.int .i64 (-7000 - (k : Int))] 3)
    have HB0 := Lib.hid hb0
    have HCC : Hid (Calls Try.prog 51 #[.slice pz 1 cz, .slice (some ⟨wr.heap.size, 0, none⟩) 1 1] (wr.alloc (.cells #[.int .i64 (-7000 - (k : Int))] 3)) fun e w' => e = .returned (.bool (decide ([-7000 - (k : Int)] = [-7000 - (k : Int)]))) ∧ Below (wr.alloc (.cells #[.int .i64 (-7000 - (k : Int))] 3)).heap.size (wr.alloc (.cells #[.int .i64 (-7000 - (k : Int))] 3)) w') := Lib.hid (same_any (a := [-7000 - (k : Int)]) (b := [-7000 - (k : Int)]) (D := fun b => b < wr.heap.size) (E := fun b => b = wr.heap.size) (by simp) (fun b hb => by omega) (fun b hb => by omega) (hiv.mono (fun b h => h) (fun b hb _ => hb0.block b hb)) ⟨_, _, rfl, fun _ => ⟨wr.heap.size, 0, rfl, rfl, fun i hi => by
        have hi0 : i = 0 := by simp at hi; exact hi
        subst hi0
        exact cell_of_row _ wr.heap.size 0 _ 3 (0, 0) (heap_alloc_last wr _)⟩⟩)
    have i1 : ¬ (n : Int) + (k : Int) < 0 := by omega
    have i2 : (n : Int) + (k : Int) < (n : Int) + 3 := by omega
    clear hz1 hz2 hzv hlen hiv hb0 hy1
    go_wp2_with fail
    refine HCC.out.mono ?_
    rintro _ w5 ⟨rfl, hb5⟩
    have hb6 : Below wr.heap.size wr w5 := HB0.out.trans (hb5.mono HB0.out.size)
    have HS2 := Lib.hid (HS.out.trans (hb6.mono HS.out.size))
    have M1 := Lib.hid (L1.out.up hb6)
    have M2 := Lib.hid (L2.out.up hb6)
    rw [decide_true]
    clear hb5 hb6 HCC HB0 HS L1 L2 x2 hz3
    go_wp2_with fail
    go_roundw
    case rel => exact ⟨k + 1, by omega, by go_num, M1, M2, HS2⟩
    case measure => simp [intOf]; omega
  · obtain rfl : k = 3 := by omega
    rw [show ((3 : Nat) : Int) = 3 from rfl]
    clear x2
    go_wp2_with fail
    go_loopw [7] (fun i wr => ∃ j : Nat, j ≤ n ∧ i = .int .i64 (j : Nat) ∧ Hid (BX wr w.heap.size es) ∧ Hid (BX wr (w.heap.size + 1) ds) ∧ Hid (Below w.heap.size w wr)) (fun i _ => n - (intOf i).toNat)
    case atStart => exact ⟨0, by omega, rfl, L1, L2, HS⟩
    case round =>
    clear HS L1 L2
    obtain ⟨j, hj, rfl, L1, L2, HS⟩ := hrel
    have x1 : wr.cell? ⟨w.heap.size, 257, none⟩ = some (.slice (some ⟨g, 0, none⟩) n cap) := (L1.out.cell 257).trans A1.out
    have x2 : wr.cell? ⟨w.heap.size + 1, 257, none⟩ = some (.slice p n c) := (L2.out.cell 257).trans B1.out
    by_cases hlt : j < n
    · have hlt2 : j < d.nx.length := by rw [HN.out]; exact hlt
      obtain ⟨p', c', he, hh⟩ := (HM.out.up HS.out).nx
      injection he with e1 e2 e3
      subst e1 e3
      obtain ⟨b, o, rfl, hb, hc⟩ := hh (by intro e; rw [e] at hlt2; simp at hlt2)
      obtain ⟨qf, ff, hiv, hcj⟩ := hc j hlt2
      have hti : ∃ z : Ni, z.1 = d.nx[j] ∧ TI B wr d.nx[j] (nV z) ∧ wr.cell? ⟨g, j, none⟩ = some (nV z) ∧ g < wr.heap.size := by
        obtain ⟨⟨zs, ms, h1, h2, h3, h4⟩, _⟩ := (HT.out.up HS.out)
        have hzl : zs.length = d.nx.length := by rw [← h1, List.length_map]
        have hjz : j < zs.length := by omega
        have e : (zs[j]).1 = d.nx[j] := by
          have := congrArg (fun l => l[j]?) h1
          simp only [List.getElem?_map, List.getElem?_eq_getElem hjz, Option.map_some, List.getElem?_eq_getElem hlt2] at this
          exact Option.some.inj this
        refine ⟨zs[j], e, ?_, ?_, (World.ownsRow.lt h4.2 g rfl).2⟩
        · have := tn_ti h4 j hjz h2
          rwa [e] at this
        · have := tn_cell h4 j (by simp; omega)
          rwa [List.getElem_append_left hjz] at this
      obtain ⟨z, hz1, hz2, hz3, hz4⟩ := hti
      obtain ⟨zv, hzv⟩ : ∃ zv, nV z = zv := ⟨_, rfl⟩
      have hform : ∃ pz cz, zv = .slice pz d.nx[j].length cz := ⟨_, _, by rw [← hzv, nV, hz1]⟩
      obtain ⟨pz, cz, rfl⟩ := hform
      rw [hzv] at hz2 hz3
      have z1 := L1.out.lt
      have z2 := L2.out.lt
      have z4 : b < wr.heap.size := (HM.out.up HS.out).lt b hb
      have HCALL : Hid (∀ z : World, Below wr.heap.size wr z → Calls Try.prog 52 #[.slice pz d.nx[j].length cz, .slice qf d.nx[j].length ff] z fun e w' => e = .returned (.bool true) ∧ Below z.heap.size z w') := Lib.hid fun z hz => by
        have h1 : TI B z d.nx[j] (.slice pz d.nx[j].length cz) := by
          obtain ⟨g', cp, e, h⟩ := hz2
          exact ⟨g', cp, e, World.ownsRow.kept (row := none) h ⟨hz.os, hz.tape, hz.output, hz.size, fun k hk _ => hz.block k hk⟩ (.inr (by simp [Value.ownBlock]))⟩
        have hD := (HM.out.up HS.out).lt
        exact left_ints (E := D) (HL3.out _ (List.getElem_mem hlt2)) (fun b hb => Nat.lt_of_lt_of_le (hD b hb) hz.size) h1 (hiv.mono (fun b h => h) (fun b h _ => hz.block b (hD b h)))
      have hltI : (j : Int) < (n : Int) := by omega
      have hjI : ¬ (j : Int) < 0 := by omega
      clear hh hc hiv hz1 hz2 hzv e2
      generalize d.nx[j].length = m1 at *
      go_wp2_with fail
      have hX : ∀ w', Below wr.drew.heap.size wr.drew w' → w'.cell? ⟨w.heap.size, 257, none⟩ = some (.slice (some ⟨g, 0, none⟩) n cap) ∧ w'.cell? ⟨w.heap.size + 1, 257, none⟩ = some (.slice (some ⟨b, o, none⟩) n c) ∧ w'.cell? ⟨g, j, none⟩ = some (.slice pz m1 cz) ∧ w'.cell? ⟨b, o + j, none⟩ = some (.slice qf m1 ff) ∧ Below wr.heap.size wr w' := fun w' hb => 
        have hb' : Below wr.heap.size wr w' := ((Below.refl wr.heap.size wr).drew).trans hb
        ⟨(hb'.cell (p := ⟨w.heap.size, 257, none⟩) z1).trans x1, (hb'.cell (p := ⟨w.heap.size + 1, 257, none⟩) z2).trans x2, (hb'.cell (p := ⟨g, j, none⟩) hz4).trans hz3, (hb'.cell (p := ⟨b, o + j, none⟩) z4).trans hcj, hb'⟩
      go_region_held3 (fun w' => w'.cell? ⟨w.heap.size, 257, none⟩ = some (.slice (some ⟨g, 0, none⟩) n cap) ∧ w'.cell? ⟨w.heap.size + 1, 257, none⟩ = some (.slice (some ⟨b, o, none⟩) n c) ∧ w'.cell? ⟨g, j, none⟩ = some (.slice pz m1 cz) ∧ w'.cell? ⟨b, o + j, none⟩ = some (.slice qf m1 ff) ∧ Below wr.heap.size wr w')
        (first | assumption | exact ⟨x1, x2, hz3, hcj, (Below.refl wr.heap.size wr).drew⟩ | exact hX _ hb)
        (first | (go_at_call 52; refine (HCALL.out _ (Below.refl wr.heap.size wr).drew).mono ?_; rintro _ w' ⟨rfl, hb⟩))
      have hb' : Below wr.heap.size wr w' := ((Below.refl wr.heap.size wr).drew).trans hb
      have HS2 := Lib.hid (HS.out.trans (hb'.mono HS.out.size))
      have M1 := Lib.hid (L1.out.up hb')
      have M2 := Lib.hid (L2.out.up hb')
      clear hb hb' hX HS L1 L2 x1 x2 hz3 hcj HCALL
      go_wp2_with fail
      go_roundw
      case rel => exact ⟨j + 1, by omega, by go_num, M1, M2, HS2⟩
      case measure => simp [intOf]; omega
    · obtain rfl : j = n := by omega
      go_wp2_with fail
      go_ret
      exact ⟨rfl, HS.out⟩
end Go.Proofs.Ytbdbnjbafampaaa
