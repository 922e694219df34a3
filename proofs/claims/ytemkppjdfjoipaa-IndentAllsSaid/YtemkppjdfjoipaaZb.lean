/- Package relex. -/
import Derived.Test.YtemkppjdfjoipaaProg
import Derived.Test.YtemkppjdfjoipaaU24
import Derived.Deep.SlicePairs
import Derived.Deep.Slices
import Derived.Laws.IdiomArrays
import Derived.OpenShut
import Derived.WideBlind
import Derived.Great.BuildSlice
import Derived.WalkKit
import Derived.Maps.OwnSet
import Derived.Maps.OwnOps
import Derived.Maps.Own
import Derived.DeepKeys5
import Derived.BigFrame
import Derived.WalkMore
import Derived.ScopeJumps
import Derived.StillTailTactics
import Derived.Stop.BytesEq
import Derived.WalkLawsBesides
import Derived.WalkSpells
import Derived.Outline
import Derived.Lib.Walk
import Derived.Lib.Hide
import Derived.Lib.Slices
import Derived.Lib.Strings
import Derived.RegionTactic
import Derived.LoopTactic
import Derived.Below
import Derived.IntWalk
import Derived.Deep.QuietTactic
import Derived.BigQuiet
import Derived.Deep.MidRow
import Derived.Maps.AppendAt
import Derived.Laws.Rows
import Derived.Laws.Tables
import Derived.Deep.WholeRow
import Derived.Deep.Cut
import Derived.Deep.CutRange
import Derived.Lib.SliceRun
import Derived.Laws.MakeOwn
import Derived.Deep.RegionLaw
import Derived.Deep.RegionLawGrows
import Derived.Deep.RegionHeld3
import Derived.RegionCalls
import Derived.Deep.RegionWith
import Derived.Deep.Light
import Derived.Laws.CopyOwn
import Derived.Laws.ResultCell
namespace Go.Proofs.Ytemkppjdfjoipaa.I1.X
set_option linter.unusedSimpArgs false
set_option linter.unusedVariables false
set_option maxRecDepth 100000
open Go.RowKit
/- The document's All. -/
set_option maxHeartbeats 32000000 in
theorem rall_any {B : Nat} {D : Nat → Prop} {w0 w : World} {s : ByteArray} {lst : List Rw} {p : Option Addr} {c : Nat} {XX : List It} (hl : lst.length ≤ 1000000) (hss : s.size ≤ 9223372036854775806) (hD : ∀ b, D b → b < B) (hrw : RW D w lst (.slice p lst.length c)) (hs : Sep B w0 w XX) :
    Calls Try.prog 10 #[.string s, .slice p lst.length c] w (AllP B w0 XX (allQ s lst)) := by
  obtain ⟨R, hR⟩ : ∃ R, allQ s lst = R := ⟨_, rfl⟩
  rw [hR]
  have HR := Lib.hid hR
  clear hR
  have HRW : Hid (∀ z, Below B w z → RW D z lst (.slice p lst.length c) ∧ ∀ b, D b → b < z.heap.size) := Lib.hid fun z hb => ⟨hrw.mono (D := D) (E := D) (fun b h => h) (fun b h _ => hb.block b (hD b h)), fun b h => Nat.lt_of_lt_of_le (hD b h) (Nat.le_trans hs.sz hb.size)⟩
  have hz46 := zero46
  have hz24 := zero24
  have hz26 := zero26
  obtain ⟨n, hn⟩ : ∃ n, lst.length = n := ⟨_, rfl⟩
  obtain ⟨b4, hb4⟩ : ∃ b, w.heap.size = b := ⟨_, rfl⟩
  have S1 := Lib.hid ((hs.rebase).allocAt hb4 (.cells zL 28))
  have HW0 := Lib.hid (fun (z : World) (Y : List It) (h : Sep B w z (Y ++ XX)) => hs.onto h)
  clear hs hrw
  go_enter Try.func10, Try.ntmps10
  go_upto_region 1 with fail
  refine at_world (fun y => Sep B w y (bxL b4 zL :: XX)) S1.out fun y hy => ?_
  have S2 := Lib.hid hy
  clear S1 hy hb4
  by_cases hlong : 65536 < s.size
  · have hlI : (65536 : Int) < (s.size : Int) := by omega
    have HRES : Hid (R = (([], ⟨[], [], []⟩), 3)) := Lib.hid (by rw [← HR.out]; unfold allQ; rw [if_pos hlong])
    clear HR HRW
    have z0 : y.cell? ⟨b4, 0, none⟩ = some (.slice none 0 0) := S2.out.boxAt 0
    have z1 : y.cell? ⟨b4, 1, none⟩ = some (.slice none 0 0) := S2.out.boxAt 1
    have z2 : y.cell? ⟨b4, 2, none⟩ = some (.slice none 0 0) := S2.out.boxAt 2
    have z3 : y.cell? ⟨b4, 3, none⟩ = some (.slice none 0 0) := S2.out.boxAt 3
    have zf0 : y.frozen? ⟨b4, 0, none⟩ = false := S2.out.fz 0
    have zf1 : y.frozen? ⟨b4, 1, none⟩ = false := S2.out.fz 1
    have zf2 : y.frozen? ⟨b4, 2, none⟩ = false := S2.out.fz 2
    have zf3 : y.frozen? ⟨b4, 3, none⟩ = false := S2.out.fz 3
    have SZ := Lib.hid (((((S2.out.setAt [] 0 (.slice none 0 0)).setAt [] 1 (.slice none 0 0)).setAt [] 2 (.slice none 0 0)).setAt [] 3 (.slice none 0 0)))
    clear S2
    go_wp2_with fail
    have e := HRES.out
    subst e
    refine bodyPost_ret (results_lt rfl _ _ b4 _ rfl SZ.out.at.2 rfl) rfl ?_
    exact ⟨_, _, _, _, [], rfl, rfl, ((((HW0.out _ [] SZ.out.tl).none_ 40 3).none_ 3 1).none_ 36 5).none_ 38 3⟩
  have hlI : ¬ (65536 : Int) < (s.size : Int) := by omega
  obtain ⟨ok, hok⟩ : ∃ b, areP (s.size : Nat) lst = b := ⟨_, rfl⟩
  have HOK : Hid (areP ((s.size : Nat) : Int) lst = ok) := Lib.hid hok
  have HR0 : Hid (areP ((s.size : Int) - ((0 : Nat) : Int)) (lst.drop 0) = ok) := Lib.hid (by rw [← hok]; simp)
  have HRW1 := Lib.hid (HRW.out y S2.out.bel)
  clear hok
  have HERR : Hid (ok = false → R = (([], ⟨[], [], []⟩), 2)) := Lib.hid (fun h => by rw [← HR.out]; unfold allQ; rw [if_neg hlong, if_pos (by rw [HOK.out, h])])
  go_wp2_with fail
  go_loopw [6, 7] (fun a i wr => ∃ j at_ : Nat, a = .int .i64 (at_ : Nat) ∧ i = .int .i64 (j : Nat) ∧ j ≤ n ∧ at_ ≤ s.size ∧ Hid (areP ((s.size : Int) - (at_ : Int)) (lst.drop j) = ok) ∧ wr = y) (fun _ i _ => n - (intOf i).toNat)
  case atStart => exact ⟨0, 0, rfl, rfl, by omega, by omega, HR0, rfl⟩
  case round =>
  clear HR0
  obtain ⟨j, at_, rfl, rfl, hj, hat, HA, rfl⟩ := hrel
  by_cases hlt : j < n
  · have hltI : (j : Int) < (n : Int) := by omega
    have hjI : ¬ (j : Int) < 0 := by omega
    have hlt' : j < lst.length := by rw [hn]; exact hlt
    obtain ⟨p', c', he, -, hh⟩ := HRW1.out.1
    injection he with e1 e2 e3
    subst e1 e3
    obtain ⟨b, o, rfl, hDb, hc⟩ := hh (by intro e; rw [e] at hlt'; simp at hlt')
    obtain ⟨g0, g1, g2⟩ := rwL_get lst j hlt'
    have c1_ : wr.cell? ⟨b, o + j * 3 + 1, none⟩ = some (.int .i64 lst[j].2.1) := by rw [Nat.add_assoc]; exact hc _ _ g1
    have HDR : Hid (lst.drop j = lst[j] :: lst.drop (j + 1)) := Lib.hid (List.drop_eq_getElem_cons hlt')
    obtain ⟨⟨rk, rn, rl⟩, hx⟩ : ∃ x, lst[j] = x := ⟨_, rfl⟩
    rw [hx] at c1_ HDR
    simp only [] at c1_
    have HA2 := Lib.hid HA.out
    rw [HDR.out] at HA2
    unfold areP at HA2
    simp only [] at HA2
    have hw1 : IntKind.i64.wrap ((s.size : Int) - (at_ : Int)) = (s.size : Int) - (at_ : Int) := IntWalk.i64_in _ (by omega)
    clear hh hc g0 g1 g2 hx e2 HA HDR
    by_cases h1 : rn < 1
    · have HF : Hid (ok = false) := Lib.hid (by rw [← HA2.out, if_pos (.inl h1)])
      have HRES := Lib.hid (HERR.out HF.out)
      clear HA2 HR HERR HRW HRW1
      have z0 : wr.cell? ⟨b4, 0, none⟩ = some (.slice none 0 0) := S2.out.boxAt 0
      have z1 : wr.cell? ⟨b4, 1, none⟩ = some (.slice none 0 0) := S2.out.boxAt 1
      have z2 : wr.cell? ⟨b4, 2, none⟩ = some (.slice none 0 0) := S2.out.boxAt 2
      have z3 : wr.cell? ⟨b4, 3, none⟩ = some (.slice none 0 0) := S2.out.boxAt 3
      have zf0 : wr.frozen? ⟨b4, 0, none⟩ = false := S2.out.fz 0
      have zf1 : wr.frozen? ⟨b4, 1, none⟩ = false := S2.out.fz 1
      have zf2 : wr.frozen? ⟨b4, 2, none⟩ = false := S2.out.fz 2
      have zf3 : wr.frozen? ⟨b4, 3, none⟩ = false := S2.out.fz 3
      have SZ := Lib.hid (((((S2.out.setAt [] 0 (.slice none 0 0)).setAt [] 1 (.slice none 0 0)).setAt [] 2 (.slice none 0 0)).setAt [] 3 (.slice none 0 0)))
      clear S2
      go_wp2_with fail
      have e := HRES.out
      subst e
      refine bodyPost_ret (results_lt rfl _ _ b4 _ rfl SZ.out.at.2 rfl) rfl ?_
      exact ⟨_, _, _, _, [], rfl, rfl, ((((HW0.out _ [] SZ.out.tl).none_ 40 3).none_ 3 1).none_ 36 5).none_ 38 3⟩
    · by_cases h2 : (s.size : Int) - (at_ : Int) < rn
      · have HF : Hid (ok = false) := Lib.hid (by rw [← HA2.out, if_pos (.inr h2)])
        have HRES := Lib.hid (HERR.out HF.out)
        clear HA2 HR HERR HRW HRW1
        have z0 : wr.cell? ⟨b4, 0, none⟩ = some (.slice none 0 0) := S2.out.boxAt 0
        have z1 : wr.cell? ⟨b4, 1, none⟩ = some (.slice none 0 0) := S2.out.boxAt 1
        have z2 : wr.cell? ⟨b4, 2, none⟩ = some (.slice none 0 0) := S2.out.boxAt 2
        have z3 : wr.cell? ⟨b4, 3, none⟩ = some (.slice none 0 0) := S2.out.boxAt 3
        have zf0 : wr.frozen? ⟨b4, 0, none⟩ = false := S2.out.fz 0
        have zf1 : wr.frozen? ⟨b4, 1, none⟩ = false := S2.out.fz 1
        have zf2 : wr.frozen? ⟨b4, 2, none⟩ = false := S2.out.fz 2
        have zf3 : wr.frozen? ⟨b4, 3, none⟩ = false := S2.out.fz 3
        have SZ := Lib.hid (((((S2.out.setAt [] 0 (.slice none 0 0)).setAt [] 1 (.slice none 0 0)).setAt [] 2 (.slice none 0 0)).setAt [] 3 (.slice none 0 0)))
        clear S2
        go_wp2_with fail
        have e := HRES.out
        subst e
        refine bodyPost_ret (results_lt rfl _ _ b4 _ rfl SZ.out.at.2 rfl) rfl ?_
        exact ⟨_, _, _, _, [], rfl, rfl, ((((HW0.out _ [] SZ.out.tl).none_ 40 3).none_ 3 1).none_ 36 5).none_ 38 3⟩
      · obtain ⟨k, rfl⟩ : ∃ k : Nat, rn = (k : Int) := ⟨rn.toNat, by omega⟩
        have HN : Hid (areP ((s.size : Int) - ((at_ + k : Nat) : Int)) (lst.drop (j + 1)) = ok) := Lib.hid (by rw [← HA2.out, if_neg (fun h => h.elim h1 h2)]; congr 1; omega)
        have hw2 : IntKind.i64.wrap ((at_ : Int) + (k : Int)) = ((at_ + k : Nat) : Int) := by rw [IntWalk.i64_in _ (by omega)]; push_cast; rfl
        have hk9 : at_ + k ≤ s.size := by omega
        clear HA2
        go_wp2_with fail
        go_roundw
        case rel => exact ⟨j + 1, at_ + k, rfl, by go_num, by omega, hk9, HN, by first | rfl | trivial⟩
        case measure => simp [intOf]; omega
  obtain rfl : n = j := by omega
  have hltI : ¬ (n : Int) < (n : Int) := by omega
  have HA2 : Hid (((s.size : Int) - (at_ : Int) == 0) = ok) := Lib.hid (by rw [← HA.out, ← hn, List.drop_length]; rfl)
  clear HA
  by_cases h9 : at_ = s.size
  · have h9I : ((at_ : Nat) : Int) = ((s.size : Nat) : Int) := by omega
    have HOKT : Hid (ok = true) := Lib.hid (by rw [← HA2.out, h9]; simp)
    have h9b : (((at_ : Nat) : Int) != ((s.size : Nat) : Int)) = false := by simp [h9]
    clear HA2 HERR HRW1
    go_wp2_with fail
    refine (rfirst_any S2.out).mono ?_
    rintro _ w2 ⟨v0, rfl, hs4⟩
    obtain ⟨p0, c0, rfl⟩ : ∃ p c, v0 = .slice p 1 c := row_form hs4.at
    unfold mkA m0
    simp only []
    have S4 := Lib.hid hs4
    obtain ⟨b8, hb8⟩ : ∃ b, w2.heap.size = b := ⟨_, rfl⟩
    have S5 := Lib.hid (S4.out.allocAt hb8 (.cells #[.slice p0 1 c0, .int .i64 0, .int .i64 0, .bool true, .int .i64 0] 36))
    clear hs4 S2 S4
    go_upto_region 13 with fail
    refine at_world (fun y => Sep B w y (.box b8 (.cells #[.slice p0 1 c0, .int .i64 0, .int .i64 0, .bool true, .int .i64 0] 36 (0, 0)) :: rI (.slice p0 1 c0) [0] :: bxL b4 zL :: XX)) S5.out fun y5 hy => ?_
    have S6 := Lib.hid hy
    clear S5 hy hb8
    have HCP : Hid (∀ (z : World) (Y : List It), Sep B w z Y → rI (.slice p0 1 c0) [0] ∈ Y → Calls Try.prog 31 #[.agg #[.slice p0 1 c0, .int .i64 0, .int .i64 0, .bool true, .int .i64 0]] z (CpP B w Y m0)) := Lib.hid (fun z Y hz hm => copy_any (m := m0) (p := p0) (c := c0) (by decide) (by decide) (fun b hb => hb.2.1) (own_iv (l := [0]) (hz.li _ hm)) hz)
    refine wp_region_owed2 (fun l act w1 => ∃ X : Nat → Value, act = ⟨(List.toArray (.string s :: .slice p n c :: undef :: undef :: .pointer (some ⟨b4, 0, none⟩) :: u5 :: .int .i64 (s.size : Nat) :: .int .i64 (n : Nat) :: .pointer (some ⟨b8, 0, none⟩) :: X 8 :: undef :: undef :: undef :: .string s :: .int .i64 (s.size : Nat) :: .bool false :: undef :: .int .i64 (n : Nat) :: .slice p n c :: .int .i64 (n : Nat) :: .bool false :: u21 :: u22 :: u23 :: u24 :: u25 :: u26 :: u27 :: u28 :: u29 :: u30 :: u31 :: u32 :: u33 :: u34 :: u35 :: u36 :: u37 :: u38 :: u39 :: u40 :: u41 :: u42 :: u43 :: u44 :: u45 :: u46 :: u47 :: u48 :: .int .i64 (s.size : Nat) :: .string s :: .int .i64 (s.size : Nat) :: .bool false :: undef :: .agg #[.slice p0 1 c0, .int .i64 0, .int .i64 0, .bool true, .int .i64 0] :: X 0 :: X 1 :: X 2 :: X 3 :: X 4 :: X 5 :: X 6 :: X 7 :: undef :: undef :: undef :: undef :: undef :: undef :: undef :: undef :: undef :: undef :: undef :: undef :: undef :: undef :: undef :: undef :: undef :: undef :: undef :: undef :: undef :: undef :: undef :: undef :: undef :: undef :: undef :: undef :: undef :: undef :: undef :: undef :: undef :: undef :: undef :: undef :: undef :: undef :: undef :: undef :: undef :: undef :: undef :: undef :: undef :: undef :: undef :: undef :: undef :: undef :: undef :: undef :: undef :: undef :: undef :: undef :: undef :: undef :: undef :: undef :: [])), []⟩ ∧ (∀ i, l i = true → ([1, 3] : List Nat).contains i = true → X i = (fun z1 => ([undef, (.slice p n c), undef, (.agg #[.slice p0 1 c0, .int .i64 0, .int .i64 0, .bool true, .int .i64 0]), undef, undef, undef, undef, undef, undef] : List Value).getD z1 undef) i) ∧ R9 B w lst m0 (.box b8 (.cells #[.slice p0 1 c0, .int .i64 0, .int .i64 0, .bool true, .int .i64 0] 36 (0, 0)) :: rI (.slice p0 1 c0) [0] :: bxL b4 zL :: XX) (l 0) (l 2) (l 4) (l 5) (l 6) (l 7) (l 8) (l 9) (X 0) (X 2) (X 4) (X 5) (X 6) (X 7) (X 8) w1) (by kernel_rfl) (by kernel_rfl) ⟨(fun i => ([undef, undef, undef, undef, undef, undef, undef, undef, undef, undef] : List Value).getD i undef), rfl, (fun i h => by cases h), (R9.start S6.out.drew)⟩ ?st ?fin
    case st =>
      go_light
      refine Owed.next (n := 0) (o := ?o0) ?ho0 ?h0 ?hs0
      case ho0 => rfl
      case h0 =>
        intro l act w1 hw hl hI K hK
        obtain ⟨hc, X, rfl, hX, hT⟩ := hI
        have HX := fun v => Lib.hid (packsN 0 v hX (by kernel_rfl) [] (fun _ h => nomatch h))
        clear hX
        have g2 : l 2 = false := hc.not 2 0 hl (by kernel_rfl)
        have g7 : l 7 = false := hc.not 7 2 g2 (by kernel_rfl)
        have g9 : l 9 = false := hc.not 9 7 g7 (by kernel_rfl)
        rw [if_pos (by rfl)]
        go_wp2_with fail
        exact hK.out _ _ ⟨hc.next hw, fun z0 => bif [0].contains z0 then (.slice (some ⟨w1.heap.size, 0, none⟩) 0 0) else bif ([] : List Nat).contains z0 then (fun z1 => ([undef, (.slice p n c), undef, (.agg #[.slice p0 1 c0, .int .i64 0, .int .i64 0, .bool true, .int .i64 0]), undef, undef, undef, undef, undef, undef] : List Value).getD z1 undef) z0 else X z0, rfl, (HX _).out, hT.o0 hl g2 g7 g9⟩
      refine Owed.next (n := 1) (o := ?o1) ?ho1 ?h1 ?hs1
      case ho1 => rfl
      case h1 =>
        intro l act w1 hw hl hI K hK
        obtain ⟨hc, X, rfl, hX, hT⟩ := hI
        have HX := Lib.hid (packsM 1 hX [] (fun _ h => nomatch h))
        clear hX
        rw [if_pos (by rfl)]
        go_wp2_with fail
        exact hK.out _ _ ⟨hc.next hw, fun z0 => bif (1 :: []).contains z0 then (fun z1 => ([undef, (.slice p n c), undef, (.agg #[.slice p0 1 c0, .int .i64 0, .int .i64 0, .bool true, .int .i64 0]), undef, undef, undef, undef, undef, undef] : List Value).getD z1 undef) z0 else X z0, rfl, HX.out, hT⟩
      refine Owed.next (n := 2) (o := ?o2) ?ho2 ?h2 ?hs2
      case ho2 => rfl
      case h2 =>
        intro l act w1 hw hl hI K hK
        obtain ⟨hc, X, rfl, hX, hT⟩ := hI
        have h1 : X 1 = (.slice p n c) := hX 1 (hw 1 (by kernel_rfl)) (by kernel_rfl)
        have HX := fun v => Lib.hid (packsN 2 v hX (by kernel_rfl) [1] (List.forall_mem_cons.2 ⟨hw 1 (by kernel_rfl), (fun _ h => nomatch h)⟩))
        clear hX
        have k0 : l 0 = true := hw 0 (by kernel_rfl)
        have g7 : l 7 = false := hc.not 7 2 hl (by kernel_rfl)
        have g9 : l 9 = false := hc.not 9 7 g7 (by kernel_rfl)
        obtain ⟨bR, YR, e0, hs2, hN⟩ := hT.at2 k0 hl g7 g9
        have HB2 := Lib.hid hs2.bel
        rw [h1]
        clear h1
        rw [if_pos (by rfl)]
        refine wpK_appR (B := B) (w0 := w) (D := D) (lst := lst) (b := bR) (.tmp 55) (.tmp 56) rfl e0 (by rw [hn]; rfl) (by rw [e0] at hs2; exact hs2) (HRW.out w1 HB2.out).1 (by omega) ?_
        intro v2 w2 hs3
        exact hK.out _ _ ⟨hc.next hw, fun z0 => bif [2].contains z0 then v2 else bif ([1] : List Nat).contains z0 then (fun z1 => ([undef, (.slice p n c), undef, (.agg #[.slice p0 1 c0, .int .i64 0, .int .i64 0, .bool true, .int .i64 0]), undef, undef, undef, undef, undef, undef] : List Value).getD z1 undef) z0 else X z0, rfl, (HX _).out, hN v2 w2 hs3⟩
      refine Owed.next (n := 3) (o := ?o3) ?ho3 ?h3 ?hs3
      case ho3 => rfl
      case h3 =>
        intro l act w1 hw hl hI K hK
        obtain ⟨hc, X, rfl, hX, hT⟩ := hI
        have HX := Lib.hid (packsM 3 hX [] (fun _ h => nomatch h))
        clear hX
        obtain ⟨Y9, hY9⟩ := hT.sep
        have hb9 : w1.heap[b8]? = some (.cells #[.slice p0 1 c0, .int .i64 0, .int .i64 0, .bool true, .int .i64 0] 36 (0, 0)) := (hY9.li (.box b8 (.cells #[.slice p0 1 c0, .int .i64 0, .int .i64 0, .bool true, .int .i64 0] 36 (0, 0))) (List.mem_append_right _ (List.mem_cons_self ..))).2
        have dd0 : w1.cell? ⟨b8, 0, none⟩ = some (.slice p0 1 c0) := cell_of_row w1 b8 0 _ 36 (0, 0) hb9
        have dd1 : w1.cell? ⟨b8, 1, none⟩ = some (.int .i64 0) := cell_of_row w1 b8 1 _ 36 (0, 0) hb9
        have dd2 : w1.cell? ⟨b8, 2, none⟩ = some (.int .i64 0) := cell_of_row w1 b8 2 _ 36 (0, 0) hb9
        have dd3 : w1.cell? ⟨b8, 3, none⟩ = some (.bool true) := cell_of_row w1 b8 3 _ 36 (0, 0) hb9
        have dd4 : w1.cell? ⟨b8, 4, none⟩ = some (.int .i64 0) := cell_of_row w1 b8 4 _ 36 (0, 0) hb9
        clear hY9 hb9
        rw [if_pos (by rfl)]
        go_wp2_with fail
        exact hK.out _ _ ⟨hc.next hw, fun z0 => bif (3 :: []).contains z0 then (fun z1 => ([undef, (.slice p n c), undef, (.agg #[.slice p0 1 c0, .int .i64 0, .int .i64 0, .bool true, .int .i64 0]), undef, undef, undef, undef, undef, undef] : List Value).getD z1 undef) z0 else X z0, rfl, HX.out, hT⟩
      refine Owed.next (n := 4) (o := ?o4) ?ho4 ?h4 ?hs4
      case ho4 => rfl
      case h4 =>
        intro l act w1 hw hl hI K hK
        obtain ⟨hc, X, rfl, hX, hT⟩ := hI
        have h3 : X 3 = (.agg #[.slice p0 1 c0, .int .i64 0, .int .i64 0, .bool true, .int .i64 0]) := hX 3 (hw 3 (by kernel_rfl)) (by kernel_rfl)
        have HX := fun v => Lib.hid (packsN 4 v hX (by kernel_rfl) [3] (List.forall_mem_cons.2 ⟨hw 3 (by kernel_rfl), (fun _ h => nomatch h)⟩))
        clear hX
        have g5 : l 5 = false := hc.not 5 4 hl (by kernel_rfl)
        have g7 : l 7 = false := hc.not 7 5 g5 (by kernel_rfl)
        have g9 : l 9 = false := hc.not 9 7 g7 (by kernel_rfl)
        obtain ⟨YC, hsC, hN⟩ := hT.o4 hl g5 g7 g9
        rw [h3]
        clear h3
        rw [if_pos (by rfl)]
        go_simp
        go_at_call 31
        refine (HCP.out w1 _ hsC (List.mem_append_right _ (List.mem_cons_of_mem _ (List.mem_cons_self ..)))).mono ?_
        rintro _ w5 ⟨v4, rfl, hs5⟩
        exact hK.out _ _ ⟨hc.next hw, fun z0 => bif [4].contains z0 then (.agg (mkA v4 m0)) else bif ([3] : List Nat).contains z0 then (fun z1 => ([undef, (.slice p n c), undef, (.agg #[.slice p0 1 c0, .int .i64 0, .int .i64 0, .bool true, .int .i64 0]), undef, undef, undef, undef, undef, undef] : List Value).getD z1 undef) z0 else X z0, rfl, (HX _).out, hN v4 w5 hs5⟩
      refine Owed.next (n := 5) (o := ?o5) ?ho5 ?h5 ?hs5
      case ho5 => rfl
      case h5 =>
        intro l act w1 hw hl hI K hK
        obtain ⟨hc, X, rfl, hX, hT⟩ := hI
        have HX := fun v => Lib.hid (packsN 5 v hX (by kernel_rfl) [] (fun _ h => nomatch h))
        clear hX
        have k4 : l 4 = true := hw 4 (by kernel_rfl)
        have g7 : l 7 = false := hc.not 7 5 hl (by kernel_rfl)
        have g9 : l 9 = false := hc.not 9 7 g7 (by kernel_rfl)
        obtain ⟨p5, c5, e4, hN⟩ := hT.at5 k4 hl g7 g9
        have e4' : X 4 = .agg #[.slice p5 1 c5, .int .i64 0, .int .i64 0, .bool true, .int .i64 0] := e4
        rw [if_pos (by rfl)]
        rw [e4']
        go_wp2_with fail
        rw [← e4']
        exact hK.out _ _ ⟨hc.next hw, fun z0 => bif [5].contains z0 then (.slice (some ⟨w1.heap.size, 0, none⟩) 1 1) else bif ([] : List Nat).contains z0 then (fun z1 => ([undef, (.slice p n c), undef, (.agg #[.slice p0 1 c0, .int .i64 0, .int .i64 0, .bool true, .int .i64 0]), undef, undef, undef, undef, undef, undef] : List Value).getD z1 undef) z0 else X z0, rfl, (HX _).out, hN⟩
      refine Owed.next (n := 6) (o := ?o6) ?ho6 ?h6 ?hs6
      case ho6 => rfl
      case h6 =>
        intro l act w1 hw hl hI K hK
        obtain ⟨hc, X, rfl, hX, hT⟩ := hI
        have HX := fun v => Lib.hid (packsN 6 v hX (by kernel_rfl) [] (fun _ h => nomatch h))
        clear hX
        have g7 : l 7 = false := hc.not 7 6 hl (by kernel_rfl)
        have g9 : l 9 = false := hc.not 9 7 g7 (by kernel_rfl)
        rw [if_pos (by rfl)]
        go_wp2_with fail
        exact hK.out _ _ ⟨hc.next hw, fun z0 => bif [6].contains z0 then (.slice (some ⟨w1.heap.size, 0, none⟩) 1 1) else bif ([] : List Nat).contains z0 then (fun z1 => ([undef, (.slice p n c), undef, (.agg #[.slice p0 1 c0, .int .i64 0, .int .i64 0, .bool true, .int .i64 0]), undef, undef, undef, undef, undef, undef] : List Value).getD z1 undef) z0 else X z0, rfl, (HX _).out, hT.o6 hl g7 g9⟩
      refine Owed.next (n := 7) (o := ?o7) ?ho7 ?h7 ?hs7
      case ho7 => rfl
      case h7 =>
        intro l act w1 hw hl hI K hK
        obtain ⟨hc, X, rfl, hX, hT⟩ := hI
        have HX := fun v => Lib.hid (packsN 7 v hX (by kernel_rfl) [] (fun _ h => nomatch h))
        clear hX
        have k2 : l 2 = true := hw 2 (by kernel_rfl)
        have k5 : l 5 = true := hw 5 (by kernel_rfl)
        have k6 : l 6 = true := hw 6 (by kernel_rfl)
        have k0 : l 0 = true := hc 2 k2 0 (by kernel_rfl)
        have k4 : l 4 = true := hc 5 k5 4 (by kernel_rfl)
        obtain ⟨p1, n1, c1, p3, n3, c3, p4, n4, c4, e2, e5, e6, hN⟩ := hT.at7 k0 k2 k4 k5 k6
        rw [if_pos (by rfl)]
        rw [e2, e5, e6]
        go_wp2_with fail
        rw [← e2, ← e5, ← e6]
        exact hK.out _ _ ⟨hc.next hw, fun z0 => bif [7].contains z0 then (.agg #[X 2, X 5, X 6, .slice none 0 0]) else bif ([] : List Nat).contains z0 then (fun z1 => ([undef, (.slice p n c), undef, (.agg #[.slice p0 1 c0, .int .i64 0, .int .i64 0, .bool true, .int .i64 0]), undef, undef, undef, undef, undef, undef] : List Value).getD z1 undef) z0 else X z0, rfl, (HX _).out, hN⟩
      refine Owed.next (n := 8) (o := ?o8) ?ho8 ?h8 ?hs8
      case ho8 => rfl
      case h8 =>
        intro l act w1 hw hl hI K hK
        obtain ⟨hc, X, rfl, hX, hT⟩ := hI
        have HX := fun v => Lib.hid (packsN 8 v hX (by kernel_rfl) [] (fun _ h => nomatch h))
        clear hX
        have g9 : l 9 = false := hc.not 9 8 hl (by kernel_rfl)
        rw [if_pos (by rfl)]
        go_wp2_with fail
        exact hK.out _ _ ⟨hc.next hw, fun z0 => bif [8].contains z0 then (.pointer (some ⟨w1.heap.size, 0, none⟩)) else bif ([] : List Nat).contains z0 then (fun z1 => ([undef, (.slice p n c), undef, (.agg #[.slice p0 1 c0, .int .i64 0, .int .i64 0, .bool true, .int .i64 0]), undef, undef, undef, undef, undef, undef] : List Value).getD z1 undef) z0 else X z0, rfl, (HX _).out, hT.o8 hl g9⟩
      refine Owed.next (n := 9) (o := ?o9) ?ho9 ?h9 ?hs9
      case ho9 => rfl
      case h9 =>
        intro l act w1 hw hl hI K hK
        obtain ⟨hc, X, rfl, hX, hT⟩ := hI
        have HX := fun v => Lib.hid (packsN 9 v hX (by kernel_rfl) [] (fun _ h => nomatch h))
        clear hX
        have k7 : l 7 = true := hw 7 (by kernel_rfl)
        have k8 : l 8 = true := hw 8 (by kernel_rfl)
        have k2 : l 2 = true := hc 7 k7 2 (by kernel_rfl)
        have k5 : l 5 = true := hc 7 k7 5 (by kernel_rfl)
        have k6 : l 6 = true := hc 7 k7 6 (by kernel_rfl)
        have k0 : l 0 = true := hc 2 k2 0 (by kernel_rfl)
        have k4 : l 4 = true := hc 5 k5 4 (by kernel_rfl)
        obtain ⟨b9, p1, n1, c1, p3, n3, c3, p4, n4, c4, e8, e7, hat9, hN⟩ := hT.at9 k0 k2 k4 k5 k6 k7 k8 hl
        rw [if_pos (by rfl)]
        refine wp_store_row 28 (.tmp 9) (.tmp 62) rfl b9 #[.slice p1 n1 c1, .slice p3 n3 c3, .slice p4 n4 c4, .slice none 0 0] e8 e7 28 _ hat9 info46 rfl (by simp [Value.oneCell']) ?_
        exact hK.out _ _ ⟨hc.next hw, fun z0 => bif [9].contains z0 then undef else bif ([] : List Nat).contains z0 then (fun z1 => ([undef, (.slice p n c), undef, (.agg #[.slice p0 1 c0, .int .i64 0, .int .i64 0, .bool true, .int .i64 0]), undef, undef, undef, undef, undef, undef] : List Value).getD z1 undef) z0 else X z0, rfl, (HX _).out, hN⟩
      exact Owed.last rfl
    case fin =>
      intro l act w1 hl hI
      obtain ⟨X, rfl, hX, hT⟩ := hI
      have h1 : X 1 = (.slice p n c) := hX 1 (hl 1 (by kernel_rfl)) (by kernel_rfl)
      have h3 : X 3 = (.agg #[.slice p0 1 c0, .int .i64 0, .int .i64 0, .bool true, .int .i64 0]) := hX 3 (hl 3 (by kernel_rfl)) (by kernel_rfl)
      rw [h1, h3]
      clear h1 h3 hX
      obtain ⟨b9, p1, c1, p3, c3, p4, c4, p5, c5, e8, hs7⟩ := hT.fin (hl 0 (by kernel_rfl)) (hl 2 (by kernel_rfl)) (hl 4 (by kernel_rfl)) (hl 5 (by kernel_rfl)) (hl 6 (by kernel_rfl)) (hl 8 (by kernel_rfl)) (hl 9 (by kernel_rfl))
      rw [e8]
      obtain ⟨x0, hx0⟩ : ∃ x, X 0 = x := ⟨_, rfl⟩
      obtain ⟨x2, hx2⟩ : ∃ x, X 2 = x := ⟨_, rfl⟩
      obtain ⟨x4, hx4⟩ : ∃ x, X 4 = x := ⟨_, rfl⟩
      obtain ⟨x5, hx5⟩ : ∃ x, X 5 = x := ⟨_, rfl⟩
      obtain ⟨x6, hx6⟩ : ∃ x, X 6 = x := ⟨_, rfl⟩
      obtain ⟨x7, hx7⟩ : ∃ x, X 7 = x := ⟨_, rfl⟩
      rw [hx0, hx2, hx4, hx5, hx6, hx7]
      have S7 := Lib.hid hs7
      clear hT e8 hl hs7 hx0 hx2 hx4 hx5 hx6 hx7 S6 HCP
      have HDB := Lib.hid hD
      obtain ⟨RR, hRR⟩ : ∃ z, allR (bl s) lst = z := ⟨_, rfl⟩
      have HRES : Hid (R = ((lst, ⟨RR.1.marks, RR.1.counts, RR.1.toks ++ endF RR.2⟩), 0)) := Lib.hid (by rw [← HR.out]; unfold allQ; rw [if_neg hlong, if_neg (by rw [HOK.out, HOKT.out]; decide), hRR])
      have HRR0 : Hid (runF ⟨[m0], [0], []⟩ m0 ((bl s).drop 0) (lst.drop 0) = RR) := Lib.hid hRR
      have HLD0 : Hid (areP ((s.size : Int) - ((0 : Nat) : Int)) (lst.drop 0) = true) := Lib.hid (by rw [← HOKT.out, ← HOK.out]; simp)
      have HM00 : Hid (May m0 ∧ m0.lead + ((s.size : Int) - ((0 : Nat) : Int)) ≤ 65536) := Lib.hid ⟨m0_may, by simp only [m0]; omega⟩
      have S8 : Hid (Sep B w w1 (bxL b9 #[.slice p1 lst.length c1, .slice p3 1 c3, .slice p4 1 c4, .slice none 0 0] :: bxM b8 (mkA (.slice p0 1 c0) m0) :: rI (.slice p0 1 c0) m0.cols :: bxL b4 zL :: rR (.slice p1 lst.length c1) lst :: rM (.slice p3 1 c3) [.slice p5 1 c5] [m0] :: rI (.slice p4 1 c4) [0] :: rT (.slice none 0 0) [] :: (colsI [.slice p5 1 c5] [m0] ++ XX))) := Lib.hid ((((((((((S7.out.none_ 40 3).to 4 (by simp)).to 1 (by simp)).to 5 (by simp)).to 5 (by simp)).to 5 (by simp)).to 8 (by simp)).to 8 (by simp)).to 8 (by simp)).to 8 (by simp))
      clear S7 hRR HR HOK HOKT
      go_wp2_with fail
      go_loopw [6, 10] (fun a i wr => ∃ (j at_ : Nat) (x : Lx) (m : Mk) (vs : List Value) (vm v1 v2 v3 v4 : Value), a = .int .i64 (at_ : Nat) ∧ i = .int .i64 (j : Nat) ∧ j ≤ n ∧ at_ ≤ s.size ∧ x.marks.length = j + 1 ∧ x.counts.length = j + 1 ∧ x.toks.length ≤ 5000 * j ∧ vs.length = j + 1 ∧ Hid (runF x m ((bl s).drop at_) (lst.drop j) = RR) ∧ Hid (areP ((s.size : Int) - (at_ : Int)) (lst.drop j) = true) ∧ Hid (May m ∧ m.lead + ((s.size : Int) - (at_ : Int)) ≤ 65536) ∧ Hid (Sep B w wr (bxL b9 #[v1, v2, v3, v4] :: bxM b8 (mkA vm m) :: rI vm m.cols :: bxL b4 zL :: rR v1 lst :: rM v2 vs x.marks :: rI v3 x.counts :: rT v4 x.toks :: (colsI vs x.marks ++ XX)))) (fun _ i _ => n - (intOf i).toNat)
      case atStart => exact ⟨0, 0, ⟨[m0], [0], []⟩, m0, [.slice p5 1 c5], _, _, _, _, _, rfl, rfl, by omega, by omega, rfl, rfl, by simp, rfl, HRR0, HLD0, HM00, S8⟩
      case round =>
        clear HRR0 HLD0 HM00 S8
        obtain ⟨j, at_, x, m, vs, vm, v1, v2, v3, v4, rfl, rfl, hj, hat2, hxm, hxc, hxt, hvs, HRR, HLD, HM0, HS⟩ := hrel
        have HLN := Lib.hid (And.intro hxm (And.intro hxc (And.intro hxt hvs)))
        clear hxm hxc hxt hvs
        obtain ⟨p1, c1, hv1⟩ := row_form (HS.out.li (rR v1 lst) (by simp))
        rw [hn] at hv1
        subst hv1
        obtain ⟨p2, c2, rfl⟩ := row_form (HS.out.li (rM v2 vs x.marks) (by simp))
        obtain ⟨p3, c3, rfl⟩ := row_form (HS.out.li (rI v3 x.counts) (by simp))
        obtain ⟨p4, c4, rfl⟩ := row_form (HS.out.li (rT v4 x.toks) (by simp))
        obtain ⟨pm, cm, rfl⟩ := row_form (HS.out.li (rI vm m.cols) (by simp))
        obtain ⟨wl, rfl⟩ : ∃ wl : World, wl = wr := ⟨_, rfl⟩
        by_cases hlt : j < n
        · have hltI : (j : Int) < (n : Int) := by omega
          have hjI : ¬ (j : Int) < 0 := by omega
          have hlt' : j < lst.length := by rw [hn]; exact hlt
          obtain ⟨p', c', he, -, hh⟩ := (HRW.out w (Below.refl _ _)).1
          injection he with e1 e2 e3
          subst e1 e3
          obtain ⟨b, o, rfl, hDb, hc⟩ := hh (by intro e; rw [e] at hlt'; simp at hlt')
          obtain ⟨g0, g1, g2⟩ := rwL_get lst j hlt'
          have d0 : w.cell? ⟨b, o + j * 3, none⟩ = some (.int .i64 lst[j].1) := hc _ _ g0
          have d1 : w.cell? ⟨b, o + j * 3 + 1, none⟩ = some (.int .i64 lst[j].2.1) := by rw [Nat.add_assoc]; exact hc _ _ g1
          have d2 : w.cell? ⟨b, o + j * 3 + 2, none⟩ = some (.int .i64 lst[j].2.2) := by rw [Nat.add_assoc]; exact hc _ _ g2
          have HDR : Hid (lst.drop j = lst[j] :: lst.drop (j + 1)) := Lib.hid (List.drop_eq_getElem_cons hlt')
          obtain ⟨⟨rk, rn, rl⟩, hx⟩ : ∃ z, lst[j] = z := ⟨_, rfl⟩
          rw [hx] at d0 d1 d2 HDR
          simp only [] at d0 d1 d2
          rw [HDR.out] at HRR HLD
          obtain ⟨hn1, hn2, hn3⟩ := areP_pos HLD.out
          simp only [] at hn1 hn2 hn3
          obtain ⟨kk, rfl⟩ : ∃ nn : Nat, rn = (nn : Int) := ⟨rn.toNat, by omega⟩
          have HLD2 := Lib.hid hn3
          have hbB := HDB.out b hDb
          have HCEL : Hid (∀ z, Below B w z → z.cell? ⟨b, o + j * 3, none⟩ = some (.int .i64 rk) ∧ z.cell? ⟨b, o + j * 3 + 1, none⟩ = some (.int .i64 (kk : Nat)) ∧ z.cell? ⟨b, o + j * 3 + 2, none⟩ = some (.int .i64 rl)) := Lib.hid fun z hz => ⟨(cell_same (hz.block b hbB) _).trans d0, (cell_same (hz.block b hbB) _).trans d1, (cell_same (hz.block b hbB) _).trans d2⟩
          clear HLD hn3 HDR hx g0 g1 g2 hc hh e2 d0 d1 d2 hlt'
          have hk1 : 1 ≤ kk := by omega
          obtain ⟨ae, hae⟩ : ∃ a, at_ + kk = a := ⟨_, rfl⟩
          have hk2 : ae ≤ s.size := by omega
          have hwa : IntKind.i64.wrap ((at_ : Int) + (kk : Int)) = (ae : Int) := by rw [IntWalk.i64_in _ (by omega)]; omega
          have hex : (s.extract at_ ae).size = kk := by simp; omega
          have HBL : Hid (bl (s.extract at_ ae) = ((bl s).drop at_).take kk) := Lib.hid (by rw [← hae]; exact bl_ext s at_ kk)
          have hmd : Made m (bl (s.extract at_ ae)) (kk : Nat) := ⟨by omega, by rw [bl_len, hex], by have := HM0.out.2; omega⟩
          obtain ⟨⟨⟨c5, o5, k5, f5, l5⟩, tk5⟩, hST⟩ : ∃ z, stepF m (bl (s.extract at_ ae)) rk (kk : Nat) = z := ⟨_, rfl⟩
          have HST := Lib.hid (fun (z : World) (Y : List It) (hin : rI (.slice pm m.cols.length cm) m.cols ∈ Y) (h : Sep B w z Y) => rstep_any (k := rk) (n := (kk : Nat)) (lk := rl) (s := s.extract at_ ae) (by have := HM0.out.1.len; omega) (by rw [hex]; omega) (fun b h => h.2.1) (own_iv (h.li _ hin)) h)
          simp only [stQ_in HM0.out.1 hmd, hST] at HST
          have HMAY5 : Hid (May (stepF m (bl (s.extract at_ ae)) rk (kk : Nat)).1) := Lib.hid (stepF_may HM0.out.1 hmd)
          have HLEAD : Hid ((stepF m (bl (s.extract at_ ae)) rk (kk : Nat)).1.lead ≤ m.lead + (kk : Nat)) := Lib.hid (stepF_lead HM0.out.1.l0 (by omega))
          have HLEN := Lib.hid (stepF_len m (bl (s.extract at_ ae)) rk (kk : Nat))
          rw [hST] at HMAY5 HLEAD HLEN
          have HSTE := Lib.hid hST
          unfold mkA rwV at HST
          simp only [] at HST HMAY5 HLEAD HLEN
          clear hmd hST hex
          have hnN : at_ ≤ ae := by omega
          have hnI : ((at_ : Nat) : Int) ≤ ((ae : Nat) : Int) := by omega
          have hnI2 : ((ae : Nat) : Int) ≤ (s.size : Int) := by omega
          have hat0 : ¬ ((at_ : Nat) : Int) < 0 := by omega
          have SD : Hid (Sep B w wl.drew (bxL b9 #[.slice p1 n c1, .slice p2 x.marks.length c2, .slice p3 x.counts.length c3, .slice p4 x.toks.length c4] :: bxM b8 (mkA (.slice pm m.cols.length cm) m) :: rI (.slice pm m.cols.length cm) m.cols :: bxL b4 zL :: rR (.slice p1 n c1) lst :: rM (.slice p2 x.marks.length c2) vs x.marks :: rI (.slice p3 x.counts.length c3) x.counts :: rT (.slice p4 x.toks.length c4) x.toks :: (colsI vs x.marks ++ XX))) := Lib.hid HS.out.drew
          have HIN : Hid (rI (.slice pm m.cols.length cm) m.cols ∈ (bxL b9 #[.slice p1 n c1, .slice p2 x.marks.length c2, .slice p3 x.counts.length c3, .slice p4 x.toks.length c4] :: bxM b8 (mkA (.slice pm m.cols.length cm) m) :: rI (.slice pm m.cols.length cm) m.cols :: bxL b4 zL :: rR (.slice p1 n c1) lst :: rM (.slice p2 x.marks.length c2) vs x.marks :: rI (.slice p3 x.counts.length c3) x.counts :: rT (.slice p4 x.toks.length c4) x.toks :: (colsI vs x.marks ++ XX))) := Lib.hid (by simp)
          go_upto_region 18 with fail
          clear HS
          go_cut [11, 12] from 63 to 115 (fun s11 s12 wx => ∃ (p5 : Option Addr) (cp5 : Nat) (t5 : Value) (b11 : Nat), s11 = .pointer (some ⟨b11, 0, none⟩) ∧ s12 = t5 ∧ Hid (Sep B w wx (bxM b11 #[.slice p5 c5.length cp5, .int .i64 o5, .int .i64 k5, .bool f5, .int .i64 l5] :: rT t5 tk5 :: rI (.slice p5 c5.length cp5) c5 :: bxL b9 #[.slice p1 n c1, .slice p2 x.marks.length c2, .slice p3 x.counts.length c3, .slice p4 x.toks.length c4] :: bxM b8 (mkA (.slice pm m.cols.length cm) m) :: rI (.slice pm m.cols.length cm) m.cols :: bxL b4 zL :: rR (.slice p1 n c1) lst :: rM (.slice p2 x.marks.length c2) vs x.marks :: rI (.slice p3 x.counts.length c3) x.counts :: rT (.slice p4 x.toks.length c4) x.toks :: (colsI vs x.marks ++ XX))))
          case first =>
            refine wp_region_held_drew (S := fun z => z.heap[b8]? = some (.cells (mkA (.slice pm m.cols.length cm) m) 36 (0, 0)) ∧ Below B w z) (by kernel_rfl) ⟨(SD.out.li (bxM b8 (mkA (.slice pm m.cols.length cm) m)) (by simp)).2, SD.out.bel⟩ (fun hHeld => ?_)
            refine wpAnyH_take (i := 0) (v := .agg #[.slice pm m.cols.length cm, .int .i64 m.opn, .int .i64 m.col, .bool m.fresh, .int .i64 m.lead]) rfl (by kernel_rfl) (by kernel_rfl) (by kernel_rfl) (fun _ _ _ h => h) (Or.inl ⟨by rfl, (by intro w9 hSw; (try dsimp only at hSw); have q0 : w9.cell? ⟨b8, 0, none⟩ = some (.slice pm m.cols.length cm) := cell_of_row w9 b8 0 _ 36 (0, 0) hSw.1; have q1 : w9.cell? ⟨b8, 1, none⟩ = some (.int .i64 m.opn) := cell_of_row w9 b8 1 _ 36 (0, 0) hSw.1; have q2 : w9.cell? ⟨b8, 2, none⟩ = some (.int .i64 m.col) := cell_of_row w9 b8 2 _ 36 (0, 0) hSw.1; have q3 : w9.cell? ⟨b8, 3, none⟩ = some (.bool m.fresh) := cell_of_row w9 b8 3 _ 36 (0, 0) hSw.1; have q4 : w9.cell? ⟨b8, 4, none⟩ = some (.int .i64 m.lead) := cell_of_row w9 b8 4 _ 36 (0, 0) hSw.1; go_simp)⟩) hHeld ?_
            (try simp only [Act.put, List.getElem_toArray, List.getElem_cons_zero, List.getElem_cons_succ, List.setIfInBounds_toArray, List.set_cons_zero, List.set_cons_succ])
            refine wpAnyH_take (i := 1) (v := .string s) rfl (by kernel_rfl) (by kernel_rfl) (by kernel_rfl) (fun _ _ _ h => h) (Or.inl ⟨by rfl, by (intro w hSw; (try dsimp only at hSw); go_simp)⟩) hHeld ?_
            (try simp only [Act.put, List.getElem_toArray, List.getElem_cons_zero, List.getElem_cons_succ, List.setIfInBounds_toArray, List.set_cons_zero, List.set_cons_succ])
            refine wpAnyH_take (i := 2) (v := .int .i64 (at_ : Nat)) rfl (by kernel_rfl) (by kernel_rfl) (by kernel_rfl) (fun _ _ _ h => h) (Or.inl ⟨by rfl, by (intro w hSw; (try dsimp only at hSw); go_simp)⟩) hHeld ?_
            (try simp only [Act.put, List.getElem_toArray, List.getElem_cons_zero, List.getElem_cons_succ, List.setIfInBounds_toArray, List.set_cons_zero, List.set_cons_succ])
            refine wpAnyH_take (i := 3) (v := .int .i64 (at_ : Nat)) rfl (by kernel_rfl) (by kernel_rfl) (by kernel_rfl) (fun _ _ _ h => h) (Or.inl ⟨by rfl, by (intro w hSw; (try dsimp only at hSw); go_simp)⟩) hHeld ?_
            (try simp only [Act.put, List.getElem_toArray, List.getElem_cons_zero, List.getElem_cons_succ, List.setIfInBounds_toArray, List.set_cons_zero, List.set_cons_succ])
            refine wpAnyH_take (i := 4) (v := .slice (some ⟨b, o, none⟩) n c) rfl (by kernel_rfl) (by kernel_rfl) (by kernel_rfl) (fun _ _ _ h => h) (Or.inl ⟨by rfl, by (intro w hSw; (try dsimp only at hSw); go_simp)⟩) hHeld ?_
            (try simp only [Act.put, List.getElem_toArray, List.getElem_cons_zero, List.getElem_cons_succ, List.setIfInBounds_toArray, List.set_cons_zero, List.set_cons_succ])
            refine wpAnyH_take (i := 5) (v := .int .i64 (j : Nat)) rfl (by kernel_rfl) (by kernel_rfl) (by kernel_rfl) (fun _ _ _ h => h) (Or.inl ⟨by rfl, by (intro w hSw; (try dsimp only at hSw); go_simp)⟩) hHeld ?_
            (try simp only [Act.put, List.getElem_toArray, List.getElem_cons_zero, List.getElem_cons_succ, List.setIfInBounds_toArray, List.set_cons_zero, List.set_cons_succ])
            refine wpAnyH_take (i := 6) (v := .pointer (some ⟨b, o + j * 3, none⟩)) rfl (by kernel_rfl) (by kernel_rfl) (by kernel_rfl) (fun _ _ _ h => h) (Or.inl ⟨by rfl, by (intro w hSw; (try dsimp only at hSw); go_simp)⟩) hHeld ?_
            (try simp only [Act.put, List.getElem_toArray, List.getElem_cons_zero, List.getElem_cons_succ, List.setIfInBounds_toArray, List.set_cons_zero, List.set_cons_succ])
            refine wpAnyH_take (i := 7) (v := .pointer (some ⟨b, o + j * 3 + 1, none⟩)) rfl (by kernel_rfl) (by kernel_rfl) (by kernel_rfl) (fun _ _ _ h => h) (Or.inl ⟨by rfl, by (intro w hSw; (try dsimp only at hSw); go_simp)⟩) hHeld ?_
            (try simp only [Act.put, List.getElem_toArray, List.getElem_cons_zero, List.getElem_cons_succ, List.setIfInBounds_toArray, List.set_cons_zero, List.set_cons_succ])
            refine wpAnyH_take (i := 8) (v := .int .i64 (kk : Nat)) rfl (by kernel_rfl) (by kernel_rfl) (by kernel_rfl) (fun _ _ _ h => h) (Or.inl ⟨by rfl, (by intro w9 hSw; (try dsimp only at hSw); have q1 := (HCEL.out w9 hSw.2).2.1; go_simp)⟩) hHeld ?_
            (try simp only [Act.put, List.getElem_toArray, List.getElem_cons_zero, List.getElem_cons_succ, List.setIfInBounds_toArray, List.set_cons_zero, List.set_cons_succ])
            refine wpAnyH_take (i := 9) (v := .int .i64 (ae : Nat)) rfl (by kernel_rfl) (by kernel_rfl) (by kernel_rfl) (fun _ _ _ h => h) (Or.inl ⟨by rfl, by (intro w hSw; (try dsimp only at hSw); go_simp)⟩) hHeld ?_
            (try simp only [Act.put, List.getElem_toArray, List.getElem_cons_zero, List.getElem_cons_succ, List.setIfInBounds_toArray, List.set_cons_zero, List.set_cons_succ])
            refine wpAnyH_take (i := 10) (v := .string (s.extract at_ ae)) rfl (by kernel_rfl) (by kernel_rfl) (by kernel_rfl) (fun _ _ _ h => h) (Or.inl ⟨by rfl, by (intro w hSw; (try dsimp only at hSw); go_simp)⟩) hHeld ?_
            (try simp only [Act.put, List.getElem_toArray, List.getElem_cons_zero, List.getElem_cons_succ, List.setIfInBounds_toArray, List.set_cons_zero, List.set_cons_succ])
            refine wpAnyH_take (i := 11) (v := .slice (some ⟨b, o, none⟩) n c) rfl (by kernel_rfl) (by kernel_rfl) (by kernel_rfl) (fun _ _ _ h => h) (Or.inl ⟨by rfl, by (intro w hSw; (try dsimp only at hSw); go_simp)⟩) hHeld ?_
            (try simp only [Act.put, List.getElem_toArray, List.getElem_cons_zero, List.getElem_cons_succ, List.setIfInBounds_toArray, List.set_cons_zero, List.set_cons_succ])
            refine wpAnyH_take (i := 12) (v := .int .i64 (j : Nat)) rfl (by kernel_rfl) (by kernel_rfl) (by kernel_rfl) (fun _ _ _ h => h) (Or.inl ⟨by rfl, by (intro w hSw; (try dsimp only at hSw); go_simp)⟩) hHeld ?_
            (try simp only [Act.put, List.getElem_toArray, List.getElem_cons_zero, List.getElem_cons_succ, List.setIfInBounds_toArray, List.set_cons_zero, List.set_cons_succ])
            refine wpAnyH_take (i := 13) (v := .pointer (some ⟨b, o + j * 3, none⟩)) rfl (by kernel_rfl) (by kernel_rfl) (by kernel_rfl) (fun _ _ _ h => h) (Or.inl ⟨by rfl, by (intro w hSw; (try dsimp only at hSw); go_simp)⟩) hHeld ?_
            (try simp only [Act.put, List.getElem_toArray, List.getElem_cons_zero, List.getElem_cons_succ, List.setIfInBounds_toArray, List.set_cons_zero, List.set_cons_succ])
            refine wpAnyH_take (i := 14) (v := .agg #[.int .i64 rk, .int .i64 (kk : Nat), .int .i64 rl]) rfl (by kernel_rfl) (by kernel_rfl) (by kernel_rfl) (fun _ _ _ h => h) (Or.inl ⟨by rfl, (by intro w9 hSw; (try dsimp only at hSw); obtain ⟨q0, q1, q2⟩ := HCEL.out w9 hSw.2; go_simp)⟩) hHeld ?_
            (try simp only [Act.put, List.getElem_toArray, List.getElem_cons_zero, List.getElem_cons_succ, List.setIfInBounds_toArray, List.set_cons_zero, List.set_cons_succ])
            refine wpAnyH_ready (rs := [15, 19]) (by kernel_rfl) (by simp) ?_
            refine AllReadyH.cons rfl (fun K hK => ?_) (AllReadyH.cons rfl (fun K hK => ?_) AllReadyH.nil)
            · rw [if_pos (by rfl)]
              go_wp2_with fail
              refine (HST.out _ _ HIN.out SD.out).mono ?_
              rintro _ w2 ⟨v5, t5, rfl, hs2⟩
              simp only [] at hs2
              obtain ⟨p5, cp5, rfl⟩ := row_form hs2.tl.at
              unfold mkA
              simp only []
              refine hK.out _ _ ⟨(hs2.li (bxM b8 (mkA (.slice pm m.cols.length cm) m)) (by simp)).2, hs2.bel⟩ (fun hHeld2 => ?_)
              clear hHeld hK
              have hHeld := hHeld2
              clear hHeld2
              (try simp only [Act.put, List.getElem_toArray, List.getElem_cons_zero, List.getElem_cons_succ, List.setIfInBounds_toArray, List.set_cons_zero, List.set_cons_succ])
              refine wpAnyH_take (i := 16) (v := .tuple #[.agg #[.slice p5 c5.length cp5, .int .i64 o5, .int .i64 k5, .bool f5, .int .i64 l5], t5]) rfl (by kernel_rfl) (by kernel_rfl) (by kernel_rfl) (fun _ _ _ h => h) (Or.inl ⟨by rfl, by (intro w hSw; (try dsimp only at hSw); go_simp)⟩) hHeld ?_
              (try simp only [Act.put, List.getElem_toArray, List.getElem_cons_zero, List.getElem_cons_succ, List.setIfInBounds_toArray, List.set_cons_zero, List.set_cons_succ])
              refine wpAnyH_take (i := 17) (v := .agg #[.slice p5 c5.length cp5, .int .i64 o5, .int .i64 k5, .bool f5, .int .i64 l5]) rfl (by kernel_rfl) (by kernel_rfl) (by kernel_rfl) (fun _ _ _ h => h) (Or.inl ⟨by rfl, by (intro w hSw; (try dsimp only at hSw); go_simp)⟩) hHeld ?_
              (try simp only [Act.put, List.getElem_toArray, List.getElem_cons_zero, List.getElem_cons_succ, List.setIfInBounds_toArray, List.set_cons_zero, List.set_cons_succ])
              refine wpAnyH_take (i := 18) (v := t5) rfl (by kernel_rfl) (by kernel_rfl) (by kernel_rfl) (fun _ _ _ h => h) (Or.inl ⟨by rfl, by (intro w hSw; (try dsimp only at hSw); go_simp)⟩) hHeld ?_
              (try simp only [Act.put, List.getElem_toArray, List.getElem_cons_zero, List.getElem_cons_succ, List.setIfInBounds_toArray, List.set_cons_zero, List.set_cons_succ])
              refine wpAnyH_ready (rs := [19]) (by kernel_rfl) (by simp) ?_
              refine AllReadyH.cons rfl (fun K hK => ?_) (AllReadyH.nil)
              rw [if_pos (by rfl)]
              go_wp2_with fail
              refine at_K (fun v => Sep B w v (bxM w2.heap.size zA :: rT t5 tk5 :: rI (.slice p5 c5.length cp5) c5 :: bxL b9 #[.slice p1 n c1, .slice p2 x.marks.length c2, .slice p3 x.counts.length c3, .slice p4 x.toks.length c4] :: bxM b8 (mkA (.slice pm m.cols.length cm) m) :: rI (.slice pm m.cols.length cm) m.cols :: bxL b4 zL :: rR (.slice p1 n c1) lst :: rM (.slice p2 x.marks.length c2) vs x.marks :: rI (.slice p3 x.counts.length c3) x.counts :: rT (.slice p4 x.toks.length c4) x.toks :: (colsI vs x.marks ++ XX))) (hs2.alloc _) fun w3 hs3 => ?_
              refine hK.out _ _ ⟨(hs3.li (bxM b8 (mkA (.slice pm m.cols.length cm) m)) (by simp)).2, hs3.bel⟩ (fun hHeld2 => ?_)
              clear hHeld hK
              have hHeld := hHeld2
              clear hHeld2
              (try simp only [Act.put, List.getElem_toArray, List.getElem_cons_zero, List.getElem_cons_succ, List.setIfInBounds_toArray, List.set_cons_zero, List.set_cons_succ])
              refine wpAnyH_ready (rs := [20]) (by kernel_rfl) (by simp) ?_
              refine AllReadyH.cons rfl (fun K hK => ?_) (AllReadyH.nil)
              rw [if_pos (by rfl)]
              refine wp_store_row 36 (.tmp 11) (.tmp 86) rfl (w2.heap.size) #[.slice p5 c5.length cp5, .int .i64 o5, .int .i64 k5, .bool f5, .int .i64 l5] rfl rfl 36 _ hs3.at.2 info24 rfl (by simp [Value.oneCell']) ?_
              have hfin := hs3.putRow #[.slice p5 c5.length cp5, .int .i64 o5, .int .i64 k5, .bool f5, .int .i64 l5]
              refine hK.out _ _ ⟨(hfin.li (bxM b8 (mkA (.slice pm m.cols.length cm) m)) (by simp)).2, hfin.bel⟩ (fun hHeld2 => ?_)
              clear hHeld hK
              have hHeld := hHeld2
              clear hHeld2
              (try simp only [Act.put, List.getElem_toArray, List.getElem_cons_zero, List.getElem_cons_succ, List.setIfInBounds_toArray, List.set_cons_zero, List.set_cons_succ])
              refine wpAnyH_take (i := 21) (v := t5) rfl (by kernel_rfl) (by kernel_rfl) (by kernel_rfl) (fun _ _ _ h => h) (Or.inl ⟨by rfl, by (intro w hSw; (try dsimp only at hSw); go_simp)⟩) hHeld ?_
              (try simp only [Act.put, List.getElem_toArray, List.getElem_cons_zero, List.getElem_cons_succ, List.setIfInBounds_toArray, List.set_cons_zero, List.set_cons_succ])
              refine wpAnyH_done (by kernel_rfl) ?_ _
              clear hHeld
              go_wp2_with fail
              go_meet
              case rel => exact ⟨p5, cp5, t5, _, rfl, rfl, Lib.hid hfin⟩
            · rw [if_pos (by rfl)]
              go_wp2_with fail
              refine at_K (fun v => Sep B w v (bxM wl.heap.size zA :: bxL b9 #[.slice p1 n c1, .slice p2 x.marks.length c2, .slice p3 x.counts.length c3, .slice p4 x.toks.length c4] :: bxM b8 (mkA (.slice pm m.cols.length cm) m) :: rI (.slice pm m.cols.length cm) m.cols :: bxL b4 zL :: rR (.slice p1 n c1) lst :: rM (.slice p2 x.marks.length c2) vs x.marks :: rI (.slice p3 x.counts.length c3) x.counts :: rT (.slice p4 x.toks.length c4) x.toks :: (colsI vs x.marks ++ XX))) (SD.out.alloc _) fun w3 hs3 => ?_
              refine hK.out _ _ ⟨(hs3.li (bxM b8 (mkA (.slice pm m.cols.length cm) m)) (by simp)).2, hs3.bel⟩ (fun hHeld2 => ?_)
              clear hHeld hK
              have hHeld := hHeld2
              clear hHeld2
              (try simp only [Act.put, List.getElem_toArray, List.getElem_cons_zero, List.getElem_cons_succ, List.setIfInBounds_toArray, List.set_cons_zero, List.set_cons_succ])
              refine wpAnyH_ready (rs := [15]) (by kernel_rfl) (by simp) ?_
              refine AllReadyH.cons rfl (fun K hK => ?_) (AllReadyH.nil)
              rw [if_pos (by rfl)]
              go_wp2_with fail
              refine (HST.out _ _ (List.mem_cons_of_mem _ HIN.out) hs3).mono ?_
              rintro _ w2 ⟨v5, t5, rfl, hs2⟩
              simp only [] at hs2
              obtain ⟨p5, cp5, rfl⟩ := row_form hs2.tl.at
              unfold mkA
              simp only []
              refine hK.out _ _ ⟨(hs2.li (bxM b8 (mkA (.slice pm m.cols.length cm) m)) (by simp)).2, hs2.bel⟩ (fun hHeld2 => ?_)
              clear hHeld hK
              have hHeld := hHeld2
              clear hHeld2
              (try simp only [Act.put, List.getElem_toArray, List.getElem_cons_zero, List.getElem_cons_succ, List.setIfInBounds_toArray, List.set_cons_zero, List.set_cons_succ])
              refine wpAnyH_take (i := 16) (v := .tuple #[.agg #[.slice p5 c5.length cp5, .int .i64 o5, .int .i64 k5, .bool f5, .int .i64 l5], t5]) rfl (by kernel_rfl) (by kernel_rfl) (by kernel_rfl) (fun _ _ _ h => h) (Or.inl ⟨by rfl, by (intro w hSw; (try dsimp only at hSw); go_simp)⟩) hHeld ?_
              (try simp only [Act.put, List.getElem_toArray, List.getElem_cons_zero, List.getElem_cons_succ, List.setIfInBounds_toArray, List.set_cons_zero, List.set_cons_succ])
              refine wpAnyH_take (i := 17) (v := .agg #[.slice p5 c5.length cp5, .int .i64 o5, .int .i64 k5, .bool f5, .int .i64 l5]) rfl (by kernel_rfl) (by kernel_rfl) (by kernel_rfl) (fun _ _ _ h => h) (Or.inl ⟨by rfl, by (intro w hSw; (try dsimp only at hSw); go_simp)⟩) hHeld ?_
              (try simp only [Act.put, List.getElem_toArray, List.getElem_cons_zero, List.getElem_cons_succ, List.setIfInBounds_toArray, List.set_cons_zero, List.set_cons_succ])
              refine wpAnyH_take (i := 18) (v := t5) rfl (by kernel_rfl) (by kernel_rfl) (by kernel_rfl) (fun _ _ _ h => h) (Or.inl ⟨by rfl, by (intro w hSw; (try dsimp only at hSw); go_simp)⟩) hHeld ?_
              (try simp only [Act.put, List.getElem_toArray, List.getElem_cons_zero, List.getElem_cons_succ, List.setIfInBounds_toArray, List.set_cons_zero, List.set_cons_succ])
              have hs4 : Sep B w w2 (bxM wl.heap.size zA :: rT t5 tk5 :: rI (.slice p5 c5.length cp5) c5 :: bxL b9 #[.slice p1 n c1, .slice p2 x.marks.length c2, .slice p3 x.counts.length c3, .slice p4 x.toks.length c4] :: bxM b8 (mkA (.slice pm m.cols.length cm) m) :: rI (.slice pm m.cols.length cm) m.cols :: bxL b4 zL :: rR (.slice p1 n c1) lst :: rM (.slice p2 x.marks.length c2) vs x.marks :: rI (.slice p3 x.counts.length c3) x.counts :: rT (.slice p4 x.toks.length c4) x.toks :: (colsI vs x.marks ++ XX)) := (hs2.to 2 (by simp))
              refine wpAnyH_ready (rs := [20]) (by kernel_rfl) (by simp) ?_
              refine AllReadyH.cons rfl (fun K hK => ?_) (AllReadyH.nil)
              rw [if_pos (by rfl)]
              refine wp_store_row 36 (.tmp 11) (.tmp 86) rfl (wl.heap.size) #[.slice p5 c5.length cp5, .int .i64 o5, .int .i64 k5, .bool f5, .int .i64 l5] rfl rfl 36 _ hs4.at.2 info24 rfl (by simp [Value.oneCell']) ?_
              have hfin := hs4.putRow #[.slice p5 c5.length cp5, .int .i64 o5, .int .i64 k5, .bool f5, .int .i64 l5]
              refine hK.out _ _ ⟨(hfin.li (bxM b8 (mkA (.slice pm m.cols.length cm) m)) (by simp)).2, hfin.bel⟩ (fun hHeld2 => ?_)
              clear hHeld hK
              have hHeld := hHeld2
              clear hHeld2
              (try simp only [Act.put, List.getElem_toArray, List.getElem_cons_zero, List.getElem_cons_succ, List.setIfInBounds_toArray, List.set_cons_zero, List.set_cons_succ])
              refine wpAnyH_take (i := 21) (v := t5) rfl (by kernel_rfl) (by kernel_rfl) (by kernel_rfl) (fun _ _ _ h => h) (Or.inl ⟨by rfl, by (intro w hSw; (try dsimp only at hSw); go_simp)⟩) hHeld ?_
              (try simp only [Act.put, List.getElem_toArray, List.getElem_cons_zero, List.getElem_cons_succ, List.setIfInBounds_toArray, List.set_cons_zero, List.set_cons_succ])
              refine wpAnyH_done (by kernel_rfl) ?_ _
              clear hHeld
              go_wp2_with fail
              go_meet
              case rel => exact ⟨p5, cp5, t5, _, rfl, rfl, Lib.hid hfin⟩
          case rest =>
            obtain ⟨p5, cp5, t5, b11, rfl, ht5, S11⟩ := hcut
            rw [ht5]
            clear ht5
            obtain ⟨y2, rfl⟩ : ∃ y : World, y = wc := ⟨_, rfl⟩
            have S12 : Hid (Sep B w y2 (rT (.slice p4 x.toks.length c4) x.toks :: bxL b9 #[.slice p1 n c1, .slice p2 x.marks.length c2, .slice p3 x.counts.length c3, .slice p4 x.toks.length c4] :: bxM b11 #[.slice p5 c5.length cp5, .int .i64 o5, .int .i64 k5, .bool f5, .int .i64 l5] :: rT t5 tk5 :: rI (.slice p5 c5.length cp5) c5 :: bxM b8 (mkA (.slice pm m.cols.length cm) m) :: rI (.slice pm m.cols.length cm) m.cols :: bxL b4 zL :: rR (.slice p1 n c1) lst :: rM (.slice p2 x.marks.length c2) vs x.marks :: rI (.slice p3 x.counts.length c3) x.counts :: (colsI vs x.marks ++ XX))) := Lib.hid (((((((((((S11.out.to 9 (by simp)).to 9 (by simp)).to 9 (by simp)).to 9 (by simp)).to 9 (by simp)).to 9 (by simp)).to 8 (by simp)).to 8 (by simp)).to 8 (by simp)).to 9 (by simp)).to 10 (by simp))
            have HT5 : Hid (y2.ownsRow B 40 3 t5 tk5.length (tkL tk5)) := Lib.hid (S11.out.li (rT t5 tk5) (by simp))
            have v3 : y2.cell? ⟨b9, 3, none⟩ = some (.slice p4 x.toks.length c4) := S12.out.tl.boxAt 3
            clear S11 HST HIN SD
            have htl : x.toks.length + tk5.length ≤ 5000 * (j + 1) := by have := HLEN.out; have := HM0.out.1.len; have := HLN.out.2.2.1; omega
            have htm : x.toks.length + tk5.length ≤ 1000000000000 := by omega
            go_wp2_with (at_builtin; refine wp_appTT (B := B) (w0 := w) (l := x.toks) (news := tk5) _ t5 rfl (.tmp 89) (.tmp 90) rfl rfl rfl S12.out HT5.out htm ?_)
            intro v7 w7 hs7
            obtain ⟨p7, c7, rfl⟩ := row_form hs7.at
            have S13 := Lib.hid hs7
            clear hs7 S12 HT5 v3
            obtain ⟨T2, hT2⟩ : ∃ T2, x.toks ++ tk5 = T2 := ⟨_, rfl⟩
            rw [hT2] at S13 ⊢
            have HT2 := Lib.hid hT2
            clear hT2
            have v3 : w7.cell? ⟨b9, 3, none⟩ = some (.slice p4 x.toks.length c4) := S13.out.tl.boxAt 3
            have vf3 : w7.frozen? ⟨b9, 3, none⟩ = false := S13.out.tl.fz 3
            go_upto_region 20 with fail
            refine at_world (fun y => Sep B w y (rT (.slice p7 T2.length c7) T2 :: bxL b9 #[.slice p1 n c1, .slice p2 x.marks.length c2, .slice p3 x.counts.length c3, .slice p7 T2.length c7] :: bxM b11 #[.slice p5 c5.length cp5, .int .i64 o5, .int .i64 k5, .bool f5, .int .i64 l5] :: rT t5 tk5 :: rI (.slice p5 c5.length cp5) c5 :: bxM b8 (mkA (.slice pm m.cols.length cm) m) :: rI (.slice pm m.cols.length cm) m.cols :: bxL b4 zL :: rR (.slice p1 n c1) lst :: rM (.slice p2 x.marks.length c2) vs x.marks :: rI (.slice p3 x.counts.length c3) x.counts :: (colsI vs x.marks ++ XX))) (S13.out.setAt [_] 3 (.slice p7 T2.length c7)) fun y3 hy => ?_
            have S14 := Lib.hid hy
            clear hy S13 v3 vf3
            
            have HCP2 : Hid (∀ (z : World) (Y : List It), Sep B w z Y → rI (.slice p5 c5.length cp5) c5 ∈ Y → Calls Try.prog 31 #[.agg #[.slice p5 c5.length cp5, .int .i64 o5, .int .i64 k5, .bool f5, .int .i64 l5]] z (CpP B w Y (⟨c5, o5, k5, f5, l5⟩ : Mk))) := Lib.hid (fun z Y hz hm => copy_any (m := (⟨c5, o5, k5, f5, l5⟩ : Mk)) (p := p5) (c := cp5) (by have := HMAY5.out.ne; exact this) (by have := HMAY5.out.len; simp only [] at this ⊢; omega) (fun b hb => hb.2.1) (own_iv (l := c5) (hz.li _ hm)) hz)
            have S15 : Hid (Sep B w y3.drew (rM (.slice p2 x.marks.length c2) vs x.marks :: bxL b9 #[.slice p1 n c1, .slice p2 x.marks.length c2, .slice p3 x.counts.length c3, .slice p7 T2.length c7] :: bxM b11 #[.slice p5 c5.length cp5, .int .i64 o5, .int .i64 k5, .bool f5, .int .i64 l5] :: rT (.slice p7 T2.length c7) T2 :: rT t5 tk5 :: rI (.slice p5 c5.length cp5) c5 :: bxM b8 (mkA (.slice pm m.cols.length cm) m) :: rI (.slice pm m.cols.length cm) m.cols :: bxL b4 zL :: rR (.slice p1 n c1) lst :: rI (.slice p3 x.counts.length c3) x.counts :: (colsI vs x.marks ++ XX))) := Lib.hid (((((((((((S14.out.drew.to 10 (by simp)).to 9 (by simp)).to 9 (by simp)).to 9 (by simp)).to 9 (by simp)).to 9 (by simp)).to 9 (by simp)).to 7 (by simp)).to 9 (by simp)).to 9 (by simp)).to 10 (by simp))
            have HVM : Hid (vs.length = x.marks.length) := Lib.hid (by rw [HLN.out.2.2.2, HLN.out.1])
            have HML : Hid (x.marks.length ≤ 1000000000) := Lib.hid (by rw [HLN.out.1]; omega)
            obtain ⟨M2, hM2⟩ : ∃ M2, x.marks ++ [(⟨c5, o5, k5, f5, l5⟩ : Mk)] = M2 := ⟨_, rfl⟩
            have HM2 := Lib.hid hM2
            clear hM2
            go_cut [11] from 63 to 115 (fun s11 wx => s11 = .pointer (some ⟨b11, 0, none⟩) ∧ ∃ (p6 p8 : Option Addr) (c6 c8 : Nat) (vs2 : List Value), vs2 = vs ++ [.slice p6 c5.length c6] ∧ Hid (Sep B w wx (rM (.slice p8 M2.length c8) vs2 M2 :: bxL b9 #[.slice p1 n c1, .slice p8 M2.length c8, .slice p3 x.counts.length c3, .slice p7 T2.length c7] :: bxM b11 #[.slice p5 c5.length cp5, .int .i64 o5, .int .i64 k5, .bool f5, .int .i64 l5] :: rI (.slice p6 c5.length c6) c5 :: rT (.slice p7 T2.length c7) T2 :: rT t5 tk5 :: rI (.slice p5 c5.length cp5) c5 :: bxM b8 (mkA (.slice pm m.cols.length cm) m) :: rI (.slice pm m.cols.length cm) m.cols :: bxL b4 zL :: rR (.slice p1 n c1) lst :: rI (.slice p3 x.counts.length c3) x.counts :: (colsI vs x.marks ++ XX))))
            case first =>
              refine wp_region_held_drew (S := fun z => z.heap[b11]? = some (.cells #[.slice p5 c5.length cp5, .int .i64 o5, .int .i64 k5, .bool f5, .int .i64 l5] 36 (0, 0))) (by kernel_rfl) (S15.out.li (bxM b11 #[.slice p5 c5.length cp5, .int .i64 o5, .int .i64 k5, .bool f5, .int .i64 l5]) (by simp)).2 (fun hHeld => ?_)
              refine wpAnyH_take (i := 0) (v := .pointer (some ⟨b9, 1, none⟩)) rfl (by kernel_rfl) (by kernel_rfl) (by kernel_rfl) (fun _ _ _ h => h) (Or.inl ⟨by rfl, by (intro w hSw; (try dsimp only at hSw); go_simp)⟩) hHeld ?_
              (try simp only [Act.put, List.getElem_toArray, List.getElem_cons_zero, List.getElem_cons_succ, List.setIfInBounds_toArray, List.set_cons_zero, List.set_cons_succ])
              refine wpAnyH_take (i := 2) (v := .agg #[.slice p5 c5.length cp5, .int .i64 o5, .int .i64 k5, .bool f5, .int .i64 l5]) rfl (by kernel_rfl) (by kernel_rfl) (by kernel_rfl) (fun _ _ _ h => h) (Or.inl ⟨by rfl, (by intro w9 hSw; (try dsimp only at hSw); have q0 : w9.cell? ⟨b11, 0, none⟩ = some (.slice p5 c5.length cp5) := cell_of_row w9 b11 0 _ 36 (0, 0) hSw; have q1 : w9.cell? ⟨b11, 1, none⟩ = some (.int .i64 o5) := cell_of_row w9 b11 1 _ 36 (0, 0) hSw; have q2 : w9.cell? ⟨b11, 2, none⟩ = some (.int .i64 k5) := cell_of_row w9 b11 2 _ 36 (0, 0) hSw; have q3 : w9.cell? ⟨b11, 3, none⟩ = some (.bool f5) := cell_of_row w9 b11 3 _ 36 (0, 0) hSw; have q4 : w9.cell? ⟨b11, 4, none⟩ = some (.int .i64 l5) := cell_of_row w9 b11 4 _ 36 (0, 0) hSw; go_simp)⟩) hHeld ?_
              (try simp only [Act.put, List.getElem_toArray, List.getElem_cons_zero, List.getElem_cons_succ, List.setIfInBounds_toArray, List.set_cons_zero, List.set_cons_succ])
              refine wpAnyH_ready (rs := [1, 3]) (by kernel_rfl) (by simp) ?_
              refine AllReadyH.cons rfl (fun K hK => ?_) (AllReadyH.cons rfl (fun K hK => ?_) AllReadyH.nil)
              · have k1_ : y3.drew.cell? ⟨b9, 1, none⟩ = some (.slice p2 x.marks.length c2) := cell_of_row y3.drew b9 1 _ 28 (0, 0) (S15.out.li (bxL b9 #[.slice p1 n c1, .slice p2 x.marks.length c2, .slice p3 x.counts.length c3, .slice p7 T2.length c7]) (by simp)).2
                rw [if_pos (by rfl)]
                go_wp2_with fail
                refine hK.out _ _ (S15.out.li (bxM b11 #[.slice p5 c5.length cp5, .int .i64 o5, .int .i64 k5, .bool f5, .int .i64 l5]) (by simp)).2 (fun hHeld2 => ?_)
                clear hHeld hK
                have hHeld := hHeld2
                clear hHeld2
                (try simp only [Act.put, List.getElem_toArray, List.getElem_cons_zero, List.getElem_cons_succ, List.setIfInBounds_toArray, List.set_cons_zero, List.set_cons_succ])
                clear k1_
                refine wpAnyH_ready (rs := [3]) (by kernel_rfl) (by simp) ?_
                refine AllReadyH.cons rfl (fun K hK => ?_) (AllReadyH.nil)
                rw [if_pos (by rfl)]
                go_wp2_with fail
                refine (HCP2.out _ _ S15.out (by simp)).mono ?_
                rintro _ z3 ⟨v6, rfl, hs3⟩
                (try simp only [] at hs3)
                obtain ⟨p6, c6, rfl⟩ := row_form hs3.at
                unfold mkA
                (try simp only [])
                refine hK.out _ _ (hs3.li (bxM b11 #[.slice p5 c5.length cp5, .int .i64 o5, .int .i64 k5, .bool f5, .int .i64 l5]) (by simp)).2 (fun hHeld2 => ?_)
                clear hHeld hK
                have hHeld := hHeld2
                clear hHeld2
                (try simp only [Act.put, List.getElem_toArray, List.getElem_cons_zero, List.getElem_cons_succ, List.setIfInBounds_toArray, List.set_cons_zero, List.set_cons_succ])
                refine wpAnyH_ready (rs := [4]) (by kernel_rfl) (by simp) ?_
                refine AllReadyH.cons rfl (fun K hK => ?_) (AllReadyH.nil)
                rw [if_pos (by rfl)]
                go_wp2_with fail
                refine at_K (fun v => Sep B w v (bxM z3.heap.size #[.slice p6 c5.length c6, .int .i64 o5, .int .i64 k5, .bool f5, .int .i64 l5] :: rI (.slice p6 c5.length c6) c5 :: rM (.slice p2 x.marks.length c2) vs x.marks :: bxL b9 #[.slice p1 n c1, .slice p2 x.marks.length c2, .slice p3 x.counts.length c3, .slice p7 T2.length c7] :: bxM b11 #[.slice p5 c5.length cp5, .int .i64 o5, .int .i64 k5, .bool f5, .int .i64 l5] :: rT (.slice p7 T2.length c7) T2 :: rT t5 tk5 :: rI (.slice p5 c5.length cp5) c5 :: bxM b8 (mkA (.slice pm m.cols.length cm) m) :: rI (.slice pm m.cols.length cm) m.cols :: bxL b4 zL :: rR (.slice p1 n c1) lst :: rI (.slice p3 x.counts.length c3) x.counts :: (colsI vs x.marks ++ XX))) (hs3.alloc _) fun z4 hs4 => ?_
                refine hK.out _ _ (hs4.li (bxM b11 #[.slice p5 c5.length cp5, .int .i64 o5, .int .i64 k5, .bool f5, .int .i64 l5]) (by simp)).2 (fun hHeld2 => ?_)
                clear hHeld hK
                have hHeld := hHeld2
                clear hHeld2
                (try simp only [Act.put, List.getElem_toArray, List.getElem_cons_zero, List.getElem_cons_succ, List.setIfInBounds_toArray, List.set_cons_zero, List.set_cons_succ])
                refine wpAnyH_ready (rs := [5]) (by kernel_rfl) (by simp) ?_
                refine AllReadyH.cons rfl (fun K hK => ?_) (AllReadyH.nil)
                rw [if_pos (by rfl)]
                refine wpK_appM (B := B) (w0 := w) (vs := vs) (ms := x.marks) _ HVM.out (.tmp 94) (.tmp 97) rfl rfl z3.heap.size rfl (hs4.to 2 (by simp)) p6 c5.length c6 (⟨c5, o5, k5, f5, l5⟩ : Mk) (fun j => hs4.boxAt j) HML.out ?_
                intro v8 z5 hs8
                rw [HM2.out] at hs8
                obtain ⟨p8, c8, rfl⟩ := row_form hs8.at
                refine hK.out _ _ (hs8.li (bxM b11 #[.slice p5 c5.length cp5, .int .i64 o5, .int .i64 k5, .bool f5, .int .i64 l5]) (by simp)).2 (fun hHeld2 => ?_)
                clear hHeld hK
                have hHeld := hHeld2
                clear hHeld2
                (try simp only [Act.put, List.getElem_toArray, List.getElem_cons_zero, List.getElem_cons_succ, List.setIfInBounds_toArray, List.set_cons_zero, List.set_cons_succ])
                refine wpAnyH_take (i := 6) (v := .pointer (some ⟨b9, 1, none⟩)) rfl (by kernel_rfl) (by kernel_rfl) (by kernel_rfl) (fun _ _ _ h => h) (Or.inl ⟨by rfl, by (intro w hSw; (try dsimp only at hSw); go_simp)⟩) hHeld ?_
                (try simp only [Act.put, List.getElem_toArray, List.getElem_cons_zero, List.getElem_cons_succ, List.setIfInBounds_toArray, List.set_cons_zero, List.set_cons_succ])
                have hs9 : Sep B w z5 (rM (.slice p8 M2.length c8) (vs ++ [.slice p6 c5.length c6]) M2 :: bxL b9 #[.slice p1 n c1, .slice p2 x.marks.length c2, .slice p3 x.counts.length c3, .slice p7 T2.length c7] :: bxM b11 #[.slice p5 c5.length cp5, .int .i64 o5, .int .i64 k5, .bool f5, .int .i64 l5] :: rI (.slice p6 c5.length c6) c5 :: rT (.slice p7 T2.length c7) T2 :: rT t5 tk5 :: rI (.slice p5 c5.length cp5) c5 :: bxM b8 (mkA (.slice pm m.cols.length cm) m) :: rI (.slice pm m.cols.length cm) m.cols :: bxL b4 zL :: rR (.slice p1 n c1) lst :: rI (.slice p3 x.counts.length c3) x.counts :: (colsI vs x.marks ++ XX)) := (((((((((((((hs8.to 12 (by simp)).to 12 (by simp)).to 12 (by simp)).to 12 (by simp)).to 12 (by simp)).to 12 (by simp)).to 12 (by simp)).to 12 (by simp)).to 10 (by simp)).to 12 (by simp)).to 12 (by simp)).to 11 (by simp)).sub (List.Sublist.cons_cons _ (List.Sublist.cons_cons _ (List.Sublist.cons_cons _ (List.Sublist.cons_cons _ (List.Sublist.cons_cons _ (List.Sublist.cons_cons _ (List.Sublist.cons_cons _ (List.Sublist.cons_cons _ (List.Sublist.cons_cons _ (List.Sublist.cons_cons _ (List.Sublist.cons_cons _ (List.Sublist.cons_cons _ (.cons _ (.refl _)))))))))))))))
                have x1_ : z5.cell? ⟨b9, 1, none⟩ = some (.slice p2 x.marks.length c2) := hs9.tl.boxAt 1
                have f1_ : z5.frozen? ⟨b9, 1, none⟩ = false := hs9.tl.fz 1
                have hs10 := Lib.hid (hs9.setAt [_] 1 (.slice p8 M2.length c8))
                refine wpAnyH_ready (rs := [7]) (by kernel_rfl) (by simp) ?_
                refine AllReadyH.cons rfl (fun K hK => ?_) (AllReadyH.nil)
                rw [if_pos (by rfl)]
                go_wp2_with fail
                refine hK.out _ _ (hs10.out.li (bxM b11 #[.slice p5 c5.length cp5, .int .i64 o5, .int .i64 k5, .bool f5, .int .i64 l5]) (by simp)).2 (fun hHeld2 => ?_)
                clear hHeld hK
                have hHeld := hHeld2
                clear hHeld2
                (try simp only [Act.put, List.getElem_toArray, List.getElem_cons_zero, List.getElem_cons_succ, List.setIfInBounds_toArray, List.set_cons_zero, List.set_cons_succ])
                refine wpAnyH_done (by kernel_rfl) ?_ _
                clear hHeld
                go_wp2_with fail
                go_meet
                case rel => exact ⟨rfl, p6, p8, c6, c8, _, rfl, hs10⟩
              · rw [if_pos (by rfl)]
                go_wp2_with fail
                refine (HCP2.out _ _ S15.out (by simp)).mono ?_
                rintro _ z3 ⟨v6, rfl, hs3⟩
                (try simp only [] at hs3)
                obtain ⟨p6, c6, rfl⟩ := row_form hs3.at
                unfold mkA
                (try simp only [])
                refine hK.out _ _ (hs3.li (bxM b11 #[.slice p5 c5.length cp5, .int .i64 o5, .int .i64 k5, .bool f5, .int .i64 l5]) (by simp)).2 (fun hHeld2 => ?_)
                clear hHeld hK
                have hHeld := hHeld2
                clear hHeld2
                (try simp only [Act.put, List.getElem_toArray, List.getElem_cons_zero, List.getElem_cons_succ, List.setIfInBounds_toArray, List.set_cons_zero, List.set_cons_succ])
                refine wpAnyH_ready (rs := [1, 4]) (by kernel_rfl) (by simp) ?_
                refine AllReadyH.cons rfl (fun K hK => ?_) (AllReadyH.cons rfl (fun K hK => ?_) AllReadyH.nil)
                · have k1_ : z3.cell? ⟨b9, 1, none⟩ = some (.slice p2 x.marks.length c2) := cell_of_row z3 b9 1 _ 28 (0, 0) (hs3.li (bxL b9 #[.slice p1 n c1, .slice p2 x.marks.length c2, .slice p3 x.counts.length c3, .slice p7 T2.length c7]) (by simp)).2
                  rw [if_pos (by rfl)]
                  go_wp2_with fail
                  refine hK.out _ _ (hs3.li (bxM b11 #[.slice p5 c5.length cp5, .int .i64 o5, .int .i64 k5, .bool f5, .int .i64 l5]) (by simp)).2 (fun hHeld2 => ?_)
                  clear hHeld hK
                  have hHeld := hHeld2
                  clear hHeld2
                  (try simp only [Act.put, List.getElem_toArray, List.getElem_cons_zero, List.getElem_cons_succ, List.setIfInBounds_toArray, List.set_cons_zero, List.set_cons_succ])
                  clear k1_
                  refine wpAnyH_ready (rs := [4]) (by kernel_rfl) (by simp) ?_
                  refine AllReadyH.cons rfl (fun K hK => ?_) (AllReadyH.nil)
                  rw [if_pos (by rfl)]
                  go_wp2_with fail
                  refine at_K (fun v => Sep B w v (bxM z3.heap.size #[.slice p6 c5.length c6, .int .i64 o5, .int .i64 k5, .bool f5, .int .i64 l5] :: rI (.slice p6 c5.length c6) c5 :: rM (.slice p2 x.marks.length c2) vs x.marks :: bxL b9 #[.slice p1 n c1, .slice p2 x.marks.length c2, .slice p3 x.counts.length c3, .slice p7 T2.length c7] :: bxM b11 #[.slice p5 c5.length cp5, .int .i64 o5, .int .i64 k5, .bool f5, .int .i64 l5] :: rT (.slice p7 T2.length c7) T2 :: rT t5 tk5 :: rI (.slice p5 c5.length cp5) c5 :: bxM b8 (mkA (.slice pm m.cols.length cm) m) :: rI (.slice pm m.cols.length cm) m.cols :: bxL b4 zL :: rR (.slice p1 n c1) lst :: rI (.slice p3 x.counts.length c3) x.counts :: (colsI vs x.marks ++ XX))) (hs3.alloc _) fun z4 hs4 => ?_
                  refine hK.out _ _ (hs4.li (bxM b11 #[.slice p5 c5.length cp5, .int .i64 o5, .int .i64 k5, .bool f5, .int .i64 l5]) (by simp)).2 (fun hHeld2 => ?_)
                  clear hHeld hK
                  have hHeld := hHeld2
                  clear hHeld2
                  (try simp only [Act.put, List.getElem_toArray, List.getElem_cons_zero, List.getElem_cons_succ, List.setIfInBounds_toArray, List.set_cons_zero, List.set_cons_succ])
                  refine wpAnyH_ready (rs := [5]) (by kernel_rfl) (by simp) ?_
                  refine AllReadyH.cons rfl (fun K hK => ?_) (AllReadyH.nil)
                  rw [if_pos (by rfl)]
                  refine wpK_appM (B := B) (w0 := w) (vs := vs) (ms := x.marks) _ HVM.out (.tmp 94) (.tmp 97) rfl rfl z3.heap.size rfl (hs4.to 2 (by simp)) p6 c5.length c6 (⟨c5, o5, k5, f5, l5⟩ : Mk) (fun j => hs4.boxAt j) HML.out ?_
                  intro v8 z5 hs8
                  rw [HM2.out] at hs8
                  obtain ⟨p8, c8, rfl⟩ := row_form hs8.at
                  refine hK.out _ _ (hs8.li (bxM b11 #[.slice p5 c5.length cp5, .int .i64 o5, .int .i64 k5, .bool f5, .int .i64 l5]) (by simp)).2 (fun hHeld2 => ?_)
                  clear hHeld hK
                  have hHeld := hHeld2
                  clear hHeld2
                  (try simp only [Act.put, List.getElem_toArray, List.getElem_cons_zero, List.getElem_cons_succ, List.setIfInBounds_toArray, List.set_cons_zero, List.set_cons_succ])
                  refine wpAnyH_take (i := 6) (v := .pointer (some ⟨b9, 1, none⟩)) rfl (by kernel_rfl) (by kernel_rfl) (by kernel_rfl) (fun _ _ _ h => h) (Or.inl ⟨by rfl, by (intro w hSw; (try dsimp only at hSw); go_simp)⟩) hHeld ?_
                  (try simp only [Act.put, List.getElem_toArray, List.getElem_cons_zero, List.getElem_cons_succ, List.setIfInBounds_toArray, List.set_cons_zero, List.set_cons_succ])
                  have hs9 : Sep B w z5 (rM (.slice p8 M2.length c8) (vs ++ [.slice p6 c5.length c6]) M2 :: bxL b9 #[.slice p1 n c1, .slice p2 x.marks.length c2, .slice p3 x.counts.length c3, .slice p7 T2.length c7] :: bxM b11 #[.slice p5 c5.length cp5, .int .i64 o5, .int .i64 k5, .bool f5, .int .i64 l5] :: rI (.slice p6 c5.length c6) c5 :: rT (.slice p7 T2.length c7) T2 :: rT t5 tk5 :: rI (.slice p5 c5.length cp5) c5 :: bxM b8 (mkA (.slice pm m.cols.length cm) m) :: rI (.slice pm m.cols.length cm) m.cols :: bxL b4 zL :: rR (.slice p1 n c1) lst :: rI (.slice p3 x.counts.length c3) x.counts :: (colsI vs x.marks ++ XX)) := (((((((((((((hs8.to 12 (by simp)).to 12 (by simp)).to 12 (by simp)).to 12 (by simp)).to 12 (by simp)).to 12 (by simp)).to 12 (by simp)).to 12 (by simp)).to 10 (by simp)).to 12 (by simp)).to 12 (by simp)).to 11 (by simp)).sub (List.Sublist.cons_cons _ (List.Sublist.cons_cons _ (List.Sublist.cons_cons _ (List.Sublist.cons_cons _ (List.Sublist.cons_cons _ (List.Sublist.cons_cons _ (List.Sublist.cons_cons _ (List.Sublist.cons_cons _ (List.Sublist.cons_cons _ (List.Sublist.cons_cons _ (List.Sublist.cons_cons _ (List.Sublist.cons_cons _ (.cons _ (.refl _)))))))))))))))
                  have x1_ : z5.cell? ⟨b9, 1, none⟩ = some (.slice p2 x.marks.length c2) := hs9.tl.boxAt 1
                  have f1_ : z5.frozen? ⟨b9, 1, none⟩ = false := hs9.tl.fz 1
                  have hs10 := Lib.hid (hs9.setAt [_] 1 (.slice p8 M2.length c8))
                  refine wpAnyH_ready (rs := [7]) (by kernel_rfl) (by simp) ?_
                  refine AllReadyH.cons rfl (fun K hK => ?_) (AllReadyH.nil)
                  rw [if_pos (by rfl)]
                  go_wp2_with fail
                  refine hK.out _ _ (hs10.out.li (bxM b11 #[.slice p5 c5.length cp5, .int .i64 o5, .int .i64 k5, .bool f5, .int .i64 l5]) (by simp)).2 (fun hHeld2 => ?_)
                  clear hHeld hK
                  have hHeld := hHeld2
                  clear hHeld2
                  (try simp only [Act.put, List.getElem_toArray, List.getElem_cons_zero, List.getElem_cons_succ, List.setIfInBounds_toArray, List.set_cons_zero, List.set_cons_succ])
                  refine wpAnyH_done (by kernel_rfl) ?_ _
                  clear hHeld
                  go_wp2_with fail
                  go_meet
                  case rel => exact ⟨rfl, p6, p8, c6, c8, _, rfl, hs10⟩
                · rw [if_pos (by rfl)]
                  go_wp2_with fail
                  refine at_K (fun v => Sep B w v (bxM z3.heap.size #[.slice p6 c5.length c6, .int .i64 o5, .int .i64 k5, .bool f5, .int .i64 l5] :: rI (.slice p6 c5.length c6) c5 :: rM (.slice p2 x.marks.length c2) vs x.marks :: bxL b9 #[.slice p1 n c1, .slice p2 x.marks.length c2, .slice p3 x.counts.length c3, .slice p7 T2.length c7] :: bxM b11 #[.slice p5 c5.length cp5, .int .i64 o5, .int .i64 k5, .bool f5, .int .i64 l5] :: rT (.slice p7 T2.length c7) T2 :: rT t5 tk5 :: rI (.slice p5 c5.length cp5) c5 :: bxM b8 (mkA (.slice pm m.cols.length cm) m) :: rI (.slice pm m.cols.length cm) m.cols :: bxL b4 zL :: rR (.slice p1 n c1) lst :: rI (.slice p3 x.counts.length c3) x.counts :: (colsI vs x.marks ++ XX))) (hs3.alloc _) fun z4 hs4 => ?_
                  refine hK.out _ _ (hs4.li (bxM b11 #[.slice p5 c5.length cp5, .int .i64 o5, .int .i64 k5, .bool f5, .int .i64 l5]) (by simp)).2 (fun hHeld2 => ?_)
                  clear hHeld hK
                  have hHeld := hHeld2
                  clear hHeld2
                  (try simp only [Act.put, List.getElem_toArray, List.getElem_cons_zero, List.getElem_cons_succ, List.setIfInBounds_toArray, List.set_cons_zero, List.set_cons_succ])
                  refine wpAnyH_ready (rs := [1]) (by kernel_rfl) (by simp) ?_
                  refine AllReadyH.cons rfl (fun K hK => ?_) (AllReadyH.nil)
                  have k1_ : z4.cell? ⟨b9, 1, none⟩ = some (.slice p2 x.marks.length c2) := cell_of_row z4 b9 1 _ 28 (0, 0) (hs4.li (bxL b9 #[.slice p1 n c1, .slice p2 x.marks.length c2, .slice p3 x.counts.length c3, .slice p7 T2.length c7]) (by simp)).2
                  rw [if_pos (by rfl)]
                  go_wp2_with fail
                  refine hK.out _ _ (hs4.li (bxM b11 #[.slice p5 c5.length cp5, .int .i64 o5, .int .i64 k5, .bool f5, .int .i64 l5]) (by simp)).2 (fun hHeld2 => ?_)
                  clear hHeld hK
                  have hHeld := hHeld2
                  clear hHeld2
                  (try simp only [Act.put, List.getElem_toArray, List.getElem_cons_zero, List.getElem_cons_succ, List.setIfInBounds_toArray, List.set_cons_zero, List.set_cons_succ])
                  clear k1_
                  refine wpAnyH_ready (rs := [5]) (by kernel_rfl) (by simp) ?_
                  refine AllReadyH.cons rfl (fun K hK => ?_) (AllReadyH.nil)
                  rw [if_pos (by rfl)]
                  refine wpK_appM (B := B) (w0 := w) (vs := vs) (ms := x.marks) _ HVM.out (.tmp 94) (.tmp 97) rfl rfl z3.heap.size rfl (hs4.to 2 (by simp)) p6 c5.length c6 (⟨c5, o5, k5, f5, l5⟩ : Mk) (fun j => hs4.boxAt j) HML.out ?_
                  intro v8 z5 hs8
                  rw [HM2.out] at hs8
                  obtain ⟨p8, c8, rfl⟩ := row_form hs8.at
                  refine hK.out _ _ (hs8.li (bxM b11 #[.slice p5 c5.length cp5, .int .i64 o5, .int .i64 k5, .bool f5, .int .i64 l5]) (by simp)).2 (fun hHeld2 => ?_)
                  clear hHeld hK
                  have hHeld := hHeld2
                  clear hHeld2
                  (try simp only [Act.put, List.getElem_toArray, List.getElem_cons_zero, List.getElem_cons_succ, List.setIfInBounds_toArray, List.set_cons_zero, List.set_cons_succ])
                  refine wpAnyH_take (i := 6) (v := .pointer (some ⟨b9, 1, none⟩)) rfl (by kernel_rfl) (by kernel_rfl) (by kernel_rfl) (fun _ _ _ h => h) (Or.inl ⟨by rfl, by (intro w hSw; (try dsimp only at hSw); go_simp)⟩) hHeld ?_
                  (try simp only [Act.put, List.getElem_toArray, List.getElem_cons_zero, List.getElem_cons_succ, List.setIfInBounds_toArray, List.set_cons_zero, List.set_cons_succ])
                  have hs9 : Sep B w z5 (rM (.slice p8 M2.length c8) (vs ++ [.slice p6 c5.length c6]) M2 :: bxL b9 #[.slice p1 n c1, .slice p2 x.marks.length c2, .slice p3 x.counts.length c3, .slice p7 T2.length c7] :: bxM b11 #[.slice p5 c5.length cp5, .int .i64 o5, .int .i64 k5, .bool f5, .int .i64 l5] :: rI (.slice p6 c5.length c6) c5 :: rT (.slice p7 T2.length c7) T2 :: rT t5 tk5 :: rI (.slice p5 c5.length cp5) c5 :: bxM b8 (mkA (.slice pm m.cols.length cm) m) :: rI (.slice pm m.cols.length cm) m.cols :: bxL b4 zL :: rR (.slice p1 n c1) lst :: rI (.slice p3 x.counts.length c3) x.counts :: (colsI vs x.marks ++ XX)) := (((((((((((((hs8.to 12 (by simp)).to 12 (by simp)).to 12 (by simp)).to 12 (by simp)).to 12 (by simp)).to 12 (by simp)).to 12 (by simp)).to 12 (by simp)).to 10 (by simp)).to 12 (by simp)).to 12 (by simp)).to 11 (by simp)).sub (List.Sublist.cons_cons _ (List.Sublist.cons_cons _ (List.Sublist.cons_cons _ (List.Sublist.cons_cons _ (List.Sublist.cons_cons _ (List.Sublist.cons_cons _ (List.Sublist.cons_cons _ (List.Sublist.cons_cons _ (List.Sublist.cons_cons _ (List.Sublist.cons_cons _ (List.Sublist.cons_cons _ (List.Sublist.cons_cons _ (.cons _ (.refl _)))))))))))))))
                  have x1_ : z5.cell? ⟨b9, 1, none⟩ = some (.slice p2 x.marks.length c2) := hs9.tl.boxAt 1
                  have f1_ : z5.frozen? ⟨b9, 1, none⟩ = false := hs9.tl.fz 1
                  have hs10 := Lib.hid (hs9.setAt [_] 1 (.slice p8 M2.length c8))
                  refine wpAnyH_ready (rs := [7]) (by kernel_rfl) (by simp) ?_
                  refine AllReadyH.cons rfl (fun K hK => ?_) (AllReadyH.nil)
                  rw [if_pos (by rfl)]
                  go_wp2_with fail
                  refine hK.out _ _ (hs10.out.li (bxM b11 #[.slice p5 c5.length cp5, .int .i64 o5, .int .i64 k5, .bool f5, .int .i64 l5]) (by simp)).2 (fun hHeld2 => ?_)
                  clear hHeld hK
                  have hHeld := hHeld2
                  clear hHeld2
                  (try simp only [Act.put, List.getElem_toArray, List.getElem_cons_zero, List.getElem_cons_succ, List.setIfInBounds_toArray, List.set_cons_zero, List.set_cons_succ])
                  refine wpAnyH_done (by kernel_rfl) ?_ _
                  clear hHeld
                  go_wp2_with fail
                  go_meet
                  case rel => exact ⟨rfl, p6, p8, c6, c8, _, rfl, hs10⟩
            case rest =>
              obtain ⟨rfl, p6, p8, c6, c8, vs2, hvs2, S16⟩ := hcut
              obtain ⟨y4, rfl⟩ : ∃ y : World, y = wc := ⟨_, rfl⟩
              have HVS2 := Lib.hid hvs2
              clear hvs2 S15 S14 HCP2
              have S17 : Hid (Sep B w y4 (rI (.slice p3 x.counts.length c3) x.counts :: bxL b9 #[.slice p1 n c1, .slice p8 M2.length c8, .slice p3 x.counts.length c3, .slice p7 T2.length c7] :: bxM b11 #[.slice p5 c5.length cp5, .int .i64 o5, .int .i64 k5, .bool f5, .int .i64 l5] :: rI (.slice p6 c5.length c6) c5 :: rT (.slice p7 T2.length c7) T2 :: rT t5 tk5 :: rI (.slice p5 c5.length cp5) c5 :: bxM b8 (mkA (.slice pm m.cols.length cm) m) :: rI (.slice pm m.cols.length cm) m.cols :: bxL b4 zL :: rR (.slice p1 n c1) lst :: rM (.slice p8 M2.length c8) vs2 M2 :: (colsI vs x.marks ++ XX))) := Lib.hid (((((((((((S16.out.to 10 (by simp)).to 10 (by simp)).to 10 (by simp)).to 10 (by simp)).to 10 (by simp)).to 10 (by simp)).to 10 (by simp)).to 10 (by simp)).to 10 (by simp)).to 10 (by simp)).to 11 (by simp))
              obtain ⟨b13, hb13⟩ : ∃ b, y4.heap.size = b := ⟨_, rfl⟩
              have S18 := Lib.hid (S17.out.allocAt hb13 (.cells #[.int .i64 (T2.length : Nat)] 3))
              have v2 : y4.cell? ⟨b9, 2, none⟩ = some (.slice p3 x.counts.length c3) := S17.out.tl.boxAt 2
              have v3 : y4.cell? ⟨b9, 3, none⟩ = some (.slice p7 T2.length c7) := S17.out.tl.boxAt 3
              clear S16 S17
              have HCL : Hid (x.counts.length + [(T2.length : Int)].length ≤ 1000000000000) := Lib.hid (by rw [HLN.out.2.1]; simp only [List.length_singleton]; omega)
              go_wp2_with (at_builtin; refine wp_appI (B := B) (w0 := w) (l := x.counts) _ rfl (.tmp 101) (.tmp 105) rfl rfl S18.out.swap ⟨b13, 0, none⟩ 1 [(T2.length : Int)] rfl (news1 S18.out) HCL.out ?_)
              intro v10 w9 hs9
              obtain ⟨p10, c10, rfl⟩ := row_form hs9.at
              have S19 := Lib.hid hs9.swap.tl
              obtain ⟨C2, hC2⟩ : ∃ C2, x.counts ++ [(T2.length : Int)] = C2 := ⟨_, rfl⟩
              rw [hC2] at S19 ⊢
              have HC2 := Lib.hid hC2
              clear hC2 hs9 S18 v2 v3 HCL hb13
              have v2 : w9.cell? ⟨b9, 2, none⟩ = some (.slice p3 x.counts.length c3) := S19.out.tl.boxAt 2
              have vf2 : w9.frozen? ⟨b9, 2, none⟩ = false := S19.out.tl.fz 2
              go_upto_region 22 with fail
              refine at_world (fun y => Sep B w y (rI (.slice p10 C2.length c10) C2 :: bxL b9 #[.slice p1 n c1, .slice p8 M2.length c8, .slice p10 C2.length c10, .slice p7 T2.length c7] :: bxM b11 #[.slice p5 c5.length cp5, .int .i64 o5, .int .i64 k5, .bool f5, .int .i64 l5] :: rI (.slice p6 c5.length c6) c5 :: rT (.slice p7 T2.length c7) T2 :: rT t5 tk5 :: rI (.slice p5 c5.length cp5) c5 :: bxM b8 (mkA (.slice pm m.cols.length cm) m) :: rI (.slice pm m.cols.length cm) m.cols :: bxL b4 zL :: rR (.slice p1 n c1) lst :: rM (.slice p8 M2.length c8) vs2 M2 :: (colsI vs x.marks ++ XX))) (S19.out.setAt [_] 2 (.slice p10 C2.length c10)) fun y5 hy => ?_
              have S20 : Hid (Sep B w y5 (bxM b8 (mkA (.slice pm m.cols.length cm) m) :: bxM b11 #[.slice p5 c5.length cp5, .int .i64 o5, .int .i64 k5, .bool f5, .int .i64 l5] :: bxL b9 #[.slice p1 n c1, .slice p8 M2.length c8, .slice p10 C2.length c10, .slice p7 T2.length c7] :: rI (.slice p6 c5.length c6) c5 :: rT (.slice p7 T2.length c7) T2 :: rT t5 tk5 :: rI (.slice p5 c5.length cp5) c5 :: rI (.slice pm m.cols.length cm) m.cols :: bxL b4 zL :: rR (.slice p1 n c1) lst :: rM (.slice p8 M2.length c8) vs2 M2 :: rI (.slice p10 C2.length c10) C2 :: (colsI vs x.marks ++ XX))) := Lib.hid (((((((((((hy.to 11 (by simp)).to 11 (by simp)).to 11 (by simp)).to 11 (by simp)).to 10 (by simp)).to 10 (by simp)).to 10 (by simp)).to 10 (by simp)).to 9 (by simp)).to 10 (by simp)).to 11 (by simp))
              clear hy S19 v2 vf2
              have n0 : y5.cell? ⟨b11, 0, none⟩ = some (.slice p5 c5.length cp5) := S20.out.tl.boxAt 0
              have n1 : y5.cell? ⟨b11, 1, none⟩ = some (.int .i64 o5) := S20.out.tl.boxAt 1
              have n2 : y5.cell? ⟨b11, 2, none⟩ = some (.int .i64 k5) := S20.out.tl.boxAt 2
              have n3 : y5.cell? ⟨b11, 3, none⟩ = some (.bool f5) := S20.out.tl.boxAt 3
              have n4 : y5.cell? ⟨b11, 4, none⟩ = some (.int .i64 l5) := S20.out.tl.boxAt 4
              have e0 : y5.cell? ⟨b8, 0, none⟩ = some (.slice pm m.cols.length cm) := S20.out.boxAt 0
              have e1 : y5.cell? ⟨b8, 1, none⟩ = some (.int .i64 m.opn) := S20.out.boxAt 1
              have e2 : y5.cell? ⟨b8, 2, none⟩ = some (.int .i64 m.col) := S20.out.boxAt 2
              have e3 : y5.cell? ⟨b8, 3, none⟩ = some (.bool m.fresh) := S20.out.boxAt 3
              have e4 : y5.cell? ⟨b8, 4, none⟩ = some (.int .i64 m.lead) := S20.out.boxAt 4
              have g0 : y5.frozen? ⟨b8, 0, none⟩ = false := S20.out.fz 0
              have g1 : y5.frozen? ⟨b8, 1, none⟩ = false := S20.out.fz 1
              have g2 : y5.frozen? ⟨b8, 2, none⟩ = false := S20.out.fz 2
              have g3 : y5.frozen? ⟨b8, 3, none⟩ = false := S20.out.fz 3
              have g4 : y5.frozen? ⟨b8, 4, none⟩ = false := S20.out.fz 4
              have S21 := Lib.hid (((((S20.out.setAt [] 0 (.slice p5 c5.length cp5)).setAt [] 1 (.int .i64 o5)).setAt [] 2 (.int .i64 k5)).setAt [] 3 (.bool f5)).setAt [] 4 (.int .i64 l5))
              go_upto_region 23 with fail
              refine at_world (fun y => Sep B w y (bxM b8 #[.slice p5 c5.length cp5, .int .i64 o5, .int .i64 k5, .bool f5, .int .i64 l5] :: bxM b11 #[.slice p5 c5.length cp5, .int .i64 o5, .int .i64 k5, .bool f5, .int .i64 l5] :: bxL b9 #[.slice p1 n c1, .slice p8 M2.length c8, .slice p10 C2.length c10, .slice p7 T2.length c7] :: rI (.slice p6 c5.length c6) c5 :: rT (.slice p7 T2.length c7) T2 :: rT t5 tk5 :: rI (.slice p5 c5.length cp5) c5 :: rI (.slice pm m.cols.length cm) m.cols :: bxL b4 zL :: rR (.slice p1 n c1) lst :: rM (.slice p8 M2.length c8) vs2 M2 :: rI (.slice p10 C2.length c10) C2 :: (colsI vs x.marks ++ XX))) S21.out fun y6 hy => ?_
              have S22 := Lib.hid hy
              clear hy S21 S20 n0 e0 g0 n1 e1 g1 n2 e2 g2 n3 e3 g3 n4 e4 g4
              obtain ⟨q0_, q1_, q2_⟩ := HCEL.out y6 S22.out.bel
              have HRR2 : Hid (runF ⟨M2, C2, T2⟩ (⟨c5, o5, k5, f5, l5⟩ : Mk) ((bl s).drop ae) (lst.drop (j + 1)) = RR) := Lib.hid (by
                have h := HRR.out
                unfold runF at h
                simp only [Int.toNat_natCast] at h
                rw [← HBL.out, HSTE.out, List.drop_drop, hae] at h
                simp only [] at h
                rw [HM2.out, HT2.out, HC2.out] at h
                exact h)
              have HLD3 : Hid (areP ((s.size : Int) - (ae : Int)) (lst.drop (j + 1)) = true) := Lib.hid (by
                rw [show (s.size : Int) - (ae : Int) = (s.size : Int) - (at_ : Int) - (kk : Int) by omega]; exact HLD2.out)
              have HM5 : Hid (May (⟨c5, o5, k5, f5, l5⟩ : Mk) ∧ (⟨c5, o5, k5, f5, l5⟩ : Mk).lead + ((s.size : Int) - (ae : Int)) ≤ 65536) := Lib.hid ⟨HMAY5.out, by have := HLEAD.out; have := HM0.out.2; simp only []; omega⟩
              have HLN2 : Hid (M2.length = j + 1 + 1 ∧ C2.length = j + 1 + 1 ∧ T2.length ≤ 5000 * (j + 1) ∧ vs2.length = j + 1 + 1) := Lib.hid (by
                rw [← HM2.out, ← HC2.out, ← HT2.out, HVS2.out]
                simp only [List.length_append, List.length_singleton]
                exact ⟨by rw [HLN.out.1], by rw [HLN.out.2.1], htl, by rw [HLN.out.2.2.2]⟩)
              have S23 : Hid (Sep B w y6 (bxL b9 #[.slice p1 n c1, .slice p8 M2.length c8, .slice p10 C2.length c10, .slice p7 T2.length c7] :: bxM b8 #[.slice p5 c5.length cp5, .int .i64 o5, .int .i64 k5, .bool f5, .int .i64 l5] :: rI (.slice p5 c5.length cp5) c5 :: bxL b4 zL :: rR (.slice p1 n c1) lst :: rM (.slice p8 M2.length c8) vs2 M2 :: rI (.slice p10 C2.length c10) C2 :: rT (.slice p7 T2.length c7) T2 :: (colsI vs2 M2 ++ XX))) := Lib.hid (by
                have h := (((((((((((((S22.out.to 3 (by simp)).to 7 (by simp)).to 3 (by simp)).to 6 (by simp)).to 6 (by simp)).to 11 (by simp)).to 11 (by simp)).to 11 (by simp)).to 11 (by simp)).to 11 (by simp)).to 10 (by simp)).to 11 (by simp)).sub (List.Sublist.cons_cons _ (List.Sublist.cons_cons _ (List.Sublist.cons_cons _ (List.Sublist.cons_cons _ (List.Sublist.cons_cons _ (List.Sublist.cons_cons _ (List.Sublist.cons_cons _ (List.Sublist.cons_cons _ (.cons _ (.cons _ (.cons _ (List.Sublist.cons_cons _ (.refl _))))))))))))))
                have h1 : Sep B w y6 ((bxL b9 #[.slice p1 n c1, .slice p8 M2.length c8, .slice p10 C2.length c10, .slice p7 T2.length c7] :: bxM b8 #[.slice p5 c5.length cp5, .int .i64 o5, .int .i64 k5, .bool f5, .int .i64 l5] :: rI (.slice p5 c5.length cp5) c5 :: bxL b4 zL :: rR (.slice p1 n c1) lst :: rM (.slice p8 M2.length c8) vs2 M2 :: rI (.slice p10 C2.length c10) C2 :: rT (.slice p7 T2.length c7) T2 :: []) ++ (rI (.slice p6 c5.length c6) c5 :: (colsI vs x.marks ++ XX))) := h
                have h2 := h1.perm (List.Perm.append_left _ (List.perm_middle (l₁ := colsI vs x.marks) (l₂ := XX)).symm)
                rw [show colsI vs2 M2 = colsI vs x.marks ++ [rI (.slice p6 c5.length c6) c5] by rw [← HM2.out, HVS2.out, colsI_app HVM.out]; rfl, List.append_assoc]
                exact h2)
              clear S22 HRR HLD2 HM0 HLN HCEL HBL HSTE HMAY5 HLEAD HLEN HVM HM2 HT2 HC2 HVS2 q0_ q2_
              go_wp2_with fail
              go_roundw
              case rel => exact ⟨j + 1, ae, ⟨M2, C2, T2⟩, (⟨c5, o5, k5, f5, l5⟩ : Mk), vs2, _, _, _, _, _, rfl, by go_num, by omega, hk2, HLN2.out.1, HLN2.out.2.1, HLN2.out.2.2.1, HLN2.out.2.2.2, HRR2, HLD3, HM5, S23⟩
              case measure => simp [intOf]; omega
        · obtain rfl : n = j := by omega
          have hltI : ¬ (n : Int) < (n : Int) := by omega
          have hRR : RR = (x, m) := by rw [← HRR.out, ← hn, List.drop_length]; rfl
          subst hRR
          have HEN := Lib.hid (fun (z : World) (Y : List It) (h : Sep B w z Y) (hin : rI (.slice pm m.cols.length cm) m.cols ∈ Y) => rend_any (m := m) (p := pm) (c := cm) (by have := HM0.out.1.len; omega) (fun b h => h.2.1) (own_iv (h.li _ hin)) h)
          rw [endQ_in HM0.out.1] at HEN
          unfold mkA at HEN
          have HEPOS : Hid (0 < (endF m).length) := Lib.hid (by unfold endF; simp only [List.length_append, List.length_singleton]; omega)
          have HELN : Hid (x.toks.length + (endF m).length ≤ 1000000000000) := Lib.hid (by
            have h1 := HLN.out.2.2.1
            have h2 := HM0.out.1.len
            have h4 := HM0.out.1.ne
            have h3 : (endF m).length ≤ m.cols.length + 1 := by unfold endF; simp only [List.length_append, List.length_replicate, List.length_singleton]; cases m.fresh <;> simp <;> omega
            omega)
          have HVL : Hid (vs.length = x.marks.length) := Lib.hid (by rw [HLN.out.2.2.2, HLN.out.1])
          obtain ⟨T2, hT2⟩ : ∃ T2, x.toks ++ endF m = T2 := ⟨_, rfl⟩
          simp only [] at HRES
          rw [hT2] at HRES
          have HT2 := Lib.hid hT2
          clear hT2 HLD
          go_upto_region 24 with fail
          have SY : Hid (Sep B w wl.drew (rT (.slice p4 x.toks.length c4) x.toks :: bxL b9 #[.slice p1 n c1, .slice p2 x.marks.length c2, .slice p3 x.counts.length c3, .slice p4 x.toks.length c4] :: bxM b8 (mkA (.slice pm m.cols.length cm) m) :: rI (.slice pm m.cols.length cm) m.cols :: bxL b4 zL :: rR (.slice p1 n c1) lst :: rM (.slice p2 x.marks.length c2) vs x.marks :: rI (.slice p3 x.counts.length c3) x.counts :: (colsI vs x.marks ++ XX))) := Lib.hid ((((((((HS.out.drew.to 6 (by simp)).to 6 (by simp)).to 6 (by simp)).to 6 (by simp)).to 6 (by simp)).to 6 (by simp)).to 6 (by simp)).to 7 (by simp))
          clear HS HRR
          go_cut [9] from 116 to 121 (fun s9 wx => s9 = .pointer (some ⟨b9, 0, none⟩) ∧ ∃ (p7 : Option Addr) (c7 : Nat), Hid (Sep B w wx (rT (.slice p7 T2.length c7) T2 :: bxL b9 #[.slice p1 n c1, .slice p2 x.marks.length c2, .slice p3 x.counts.length c3, .slice p7 T2.length c7] :: bxM b8 (mkA (.slice pm m.cols.length cm) m) :: rI (.slice pm m.cols.length cm) m.cols :: bxL b4 zL :: rR (.slice p1 n c1) lst :: rM (.slice p2 x.marks.length c2) vs x.marks :: rI (.slice p3 x.counts.length c3) x.counts :: (colsI vs x.marks ++ XX))))
          case first =>
            refine wp_region_held_drew (S := fun z => z.heap[b8]? = some (.cells (mkA (.slice pm m.cols.length cm) m) 36 (0, 0))) (by kernel_rfl) (SY.out.li (bxM b8 (mkA (.slice pm m.cols.length cm) m)) (by simp)).2 (fun hHeld => ?_)
            refine wpAnyH_take (i := 0) (v := .pointer (some ⟨b9, 3, none⟩)) rfl (by kernel_rfl) (by kernel_rfl) (by kernel_rfl) (fun _ _ _ h => h) (Or.inl ⟨by rfl, by (intro w hSw; (try dsimp only at hSw); go_simp)⟩) hHeld ?_
            (try simp only [Act.put, List.getElem_toArray, List.getElem_cons_zero, List.getElem_cons_succ, List.setIfInBounds_toArray, List.set_cons_zero, List.set_cons_succ])
            refine wpAnyH_take (i := 2) (v := .agg #[.slice pm m.cols.length cm, .int .i64 m.opn, .int .i64 m.col, .bool m.fresh, .int .i64 m.lead]) rfl (by kernel_rfl) (by kernel_rfl) (by kernel_rfl) (fun _ _ _ h => h) (Or.inl ⟨by rfl, (by intro w9 hSw; (try dsimp only at hSw); have q0 : w9.cell? ⟨b8, 0, none⟩ = some (.slice pm m.cols.length cm) := cell_of_row w9 b8 0 _ 36 (0, 0) hSw; have q1 : w9.cell? ⟨b8, 1, none⟩ = some (.int .i64 m.opn) := cell_of_row w9 b8 1 _ 36 (0, 0) hSw; have q2 : w9.cell? ⟨b8, 2, none⟩ = some (.int .i64 m.col) := cell_of_row w9 b8 2 _ 36 (0, 0) hSw; have q3 : w9.cell? ⟨b8, 3, none⟩ = some (.bool m.fresh) := cell_of_row w9 b8 3 _ 36 (0, 0) hSw; have q4 : w9.cell? ⟨b8, 4, none⟩ = some (.int .i64 m.lead) := cell_of_row w9 b8 4 _ 36 (0, 0) hSw; go_simp)⟩) hHeld ?_
            (try simp only [Act.put, List.getElem_toArray, List.getElem_cons_zero, List.getElem_cons_succ, List.setIfInBounds_toArray, List.set_cons_zero, List.set_cons_succ])
            refine wpAnyH_ready (rs := [1, 3]) (by kernel_rfl) (by simp) ?_
            refine AllReadyH.cons rfl (fun K hK => ?_) (AllReadyH.cons rfl (fun K hK => ?_) AllReadyH.nil)
            · have k1_ : wl.drew.cell? ⟨b9, 3, none⟩ = some (.slice p4 x.toks.length c4) := cell_of_row wl.drew b9 3 _ 28 (0, 0) (SY.out.li (bxL b9 #[.slice p1 n c1, .slice p2 x.marks.length c2, .slice p3 x.counts.length c3, .slice p4 x.toks.length c4]) (by simp)).2
              rw [if_pos (by rfl)]
              go_wp2_with fail
              refine hK.out _ _ (SY.out.li (bxM b8 (mkA (.slice pm m.cols.length cm) m)) (by simp)).2 (fun hHeld2 => ?_)
              clear hHeld hK
              have hHeld := hHeld2
              clear hHeld2
              (try simp only [Act.put, List.getElem_toArray, List.getElem_cons_zero, List.getElem_cons_succ, List.setIfInBounds_toArray, List.set_cons_zero, List.set_cons_succ])
              clear k1_
              refine wpAnyH_ready (rs := [3]) (by kernel_rfl) (by simp) ?_
              refine AllReadyH.cons rfl (fun K hK => ?_) (AllReadyH.nil)
              rw [if_pos (by rfl)]
              go_wp2_with fail
              refine (HEN.out _ _ SY.out (by simp)).mono ?_
              rintro _ z3 ⟨tE, rfl, hs3⟩
              refine hK.out _ _ (hs3.li (bxM b8 (mkA (.slice pm m.cols.length cm) m)) (by simp)).2 (fun hHeld2 => ?_)
              clear hHeld hK
              have hHeld := hHeld2
              clear hHeld2
              (try simp only [Act.put, List.getElem_toArray, List.getElem_cons_zero, List.getElem_cons_succ, List.setIfInBounds_toArray, List.set_cons_zero, List.set_cons_succ])
              refine wpAnyH_ready (rs := [4]) (by kernel_rfl) (by simp) ?_
              refine AllReadyH.cons rfl (fun K hK => ?_) (AllReadyH.nil)
              rw [if_pos (by rfl)]
              refine wpK_appT (B := B) (w0 := w) (l := x.toks) (news := endF m) _ tE (.tmp 117) (.tmp 119) rfl rfl rfl (hs3.to 1 (by simp)) hs3.at HEPOS.out HELN.out ?_
              intro v8 z5 hs8
              rw [HT2.out] at hs8
              obtain ⟨p7, c7, rfl⟩ := row_form hs8.at
              refine hK.out _ _ (hs8.li (bxM b8 (mkA (.slice pm m.cols.length cm) m)) (by simp)).2 (fun hHeld2 => ?_)
              clear hHeld hK
              have hHeld := hHeld2
              clear hHeld2
              (try simp only [Act.put, List.getElem_toArray, List.getElem_cons_zero, List.getElem_cons_succ, List.setIfInBounds_toArray, List.set_cons_zero, List.set_cons_succ])
              refine wpAnyH_take (i := 5) (v := .pointer (some ⟨b9, 3, none⟩)) rfl (by kernel_rfl) (by kernel_rfl) (by kernel_rfl) (fun _ _ _ h => h) (Or.inl ⟨by rfl, by (intro w hSw; (try dsimp only at hSw); go_simp)⟩) hHeld ?_
              (try simp only [Act.put, List.getElem_toArray, List.getElem_cons_zero, List.getElem_cons_succ, List.setIfInBounds_toArray, List.set_cons_zero, List.set_cons_succ])
              have hs9 : Sep B w z5 (rT (.slice p7 T2.length c7) T2 :: bxL b9 #[.slice p1 n c1, .slice p2 x.marks.length c2, .slice p3 x.counts.length c3, .slice p4 x.toks.length c4] :: bxM b8 (mkA (.slice pm m.cols.length cm) m) :: rI (.slice pm m.cols.length cm) m.cols :: bxL b4 zL :: rR (.slice p1 n c1) lst :: rM (.slice p2 x.marks.length c2) vs x.marks :: rI (.slice p3 x.counts.length c3) x.counts :: (colsI vs x.marks ++ XX)) := (((((((((hs8.to 8 (by simp)).to 8 (by simp)).to 8 (by simp)).to 8 (by simp)).to 8 (by simp)).to 8 (by simp)).to 8 (by simp)).to 7 (by simp)).sub (List.Sublist.cons_cons _ (List.Sublist.cons_cons _ (List.Sublist.cons_cons _ (List.Sublist.cons_cons _ (List.Sublist.cons_cons _ (List.Sublist.cons_cons _ (List.Sublist.cons_cons _ (List.Sublist.cons_cons _ (.cons _ (.refl _)))))))))))
              have x1_ : z5.cell? ⟨b9, 3, none⟩ = some (.slice p4 x.toks.length c4) := hs9.tl.boxAt 3
              have f1_ : z5.frozen? ⟨b9, 3, none⟩ = false := hs9.tl.fz 3
              have hs10 := Lib.hid (hs9.setAt [_] 3 (.slice p7 T2.length c7))
              refine wpAnyH_ready (rs := [6]) (by kernel_rfl) (by simp) ?_
              refine AllReadyH.cons rfl (fun K hK => ?_) (AllReadyH.nil)
              rw [if_pos (by rfl)]
              go_wp2_with fail
              refine hK.out _ _ (hs10.out.li (bxM b8 (mkA (.slice pm m.cols.length cm) m)) (by simp)).2 (fun hHeld2 => ?_)
              clear hHeld hK
              have hHeld := hHeld2
              clear hHeld2
              (try simp only [Act.put, List.getElem_toArray, List.getElem_cons_zero, List.getElem_cons_succ, List.setIfInBounds_toArray, List.set_cons_zero, List.set_cons_succ])
              refine wpAnyH_done (by kernel_rfl) ?_ _
              clear hHeld
              go_wp2_with fail
              go_meet
              case rel => exact ⟨rfl, p7, c7, hs10⟩
            · rw [if_pos (by rfl)]
              go_wp2_with fail
              refine (HEN.out _ _ SY.out (by simp)).mono ?_
              rintro _ z3 ⟨tE, rfl, hs3⟩
              refine hK.out _ _ (hs3.li (bxM b8 (mkA (.slice pm m.cols.length cm) m)) (by simp)).2 (fun hHeld2 => ?_)
              clear hHeld hK
              have hHeld := hHeld2
              clear hHeld2
              (try simp only [Act.put, List.getElem_toArray, List.getElem_cons_zero, List.getElem_cons_succ, List.setIfInBounds_toArray, List.set_cons_zero, List.set_cons_succ])
              refine wpAnyH_ready (rs := [1]) (by kernel_rfl) (by simp) ?_
              refine AllReadyH.cons rfl (fun K hK => ?_) (AllReadyH.nil)
              have k1_ : z3.cell? ⟨b9, 3, none⟩ = some (.slice p4 x.toks.length c4) := cell_of_row z3 b9 3 _ 28 (0, 0) (hs3.li (bxL b9 #[.slice p1 n c1, .slice p2 x.marks.length c2, .slice p3 x.counts.length c3, .slice p4 x.toks.length c4]) (by simp)).2
              rw [if_pos (by rfl)]
              go_wp2_with fail
              refine hK.out _ _ (hs3.li (bxM b8 (mkA (.slice pm m.cols.length cm) m)) (by simp)).2 (fun hHeld2 => ?_)
              clear hHeld hK
              have hHeld := hHeld2
              clear hHeld2
              (try simp only [Act.put, List.getElem_toArray, List.getElem_cons_zero, List.getElem_cons_succ, List.setIfInBounds_toArray, List.set_cons_zero, List.set_cons_succ])
              clear k1_
              refine wpAnyH_ready (rs := [4]) (by kernel_rfl) (by simp) ?_
              refine AllReadyH.cons rfl (fun K hK => ?_) (AllReadyH.nil)
              rw [if_pos (by rfl)]
              refine wpK_appT (B := B) (w0 := w) (l := x.toks) (news := endF m) _ tE (.tmp 117) (.tmp 119) rfl rfl rfl (hs3.to 1 (by simp)) hs3.at HEPOS.out HELN.out ?_
              intro v8 z5 hs8
              rw [HT2.out] at hs8
              obtain ⟨p7, c7, rfl⟩ := row_form hs8.at
              refine hK.out _ _ (hs8.li (bxM b8 (mkA (.slice pm m.cols.length cm) m)) (by simp)).2 (fun hHeld2 => ?_)
              clear hHeld hK
              have hHeld := hHeld2
              clear hHeld2
              (try simp only [Act.put, List.getElem_toArray, List.getElem_cons_zero, List.getElem_cons_succ, List.setIfInBounds_toArray, List.set_cons_zero, List.set_cons_succ])
              refine wpAnyH_take (i := 5) (v := .pointer (some ⟨b9, 3, none⟩)) rfl (by kernel_rfl) (by kernel_rfl) (by kernel_rfl) (fun _ _ _ h => h) (Or.inl ⟨by rfl, by (intro w hSw; (try dsimp only at hSw); go_simp)⟩) hHeld ?_
              (try simp only [Act.put, List.getElem_toArray, List.getElem_cons_zero, List.getElem_cons_succ, List.setIfInBounds_toArray, List.set_cons_zero, List.set_cons_succ])
              have hs9 : Sep B w z5 (rT (.slice p7 T2.length c7) T2 :: bxL b9 #[.slice p1 n c1, .slice p2 x.marks.length c2, .slice p3 x.counts.length c3, .slice p4 x.toks.length c4] :: bxM b8 (mkA (.slice pm m.cols.length cm) m) :: rI (.slice pm m.cols.length cm) m.cols :: bxL b4 zL :: rR (.slice p1 n c1) lst :: rM (.slice p2 x.marks.length c2) vs x.marks :: rI (.slice p3 x.counts.length c3) x.counts :: (colsI vs x.marks ++ XX)) := (((((((((hs8.to 8 (by simp)).to 8 (by simp)).to 8 (by simp)).to 8 (by simp)).to 8 (by simp)).to 8 (by simp)).to 8 (by simp)).to 7 (by simp)).sub (List.Sublist.cons_cons _ (List.Sublist.cons_cons _ (List.Sublist.cons_cons _ (List.Sublist.cons_cons _ (List.Sublist.cons_cons _ (List.Sublist.cons_cons _ (List.Sublist.cons_cons _ (List.Sublist.cons_cons _ (.cons _ (.refl _)))))))))))
              have x1_ : z5.cell? ⟨b9, 3, none⟩ = some (.slice p4 x.toks.length c4) := hs9.tl.boxAt 3
              have f1_ : z5.frozen? ⟨b9, 3, none⟩ = false := hs9.tl.fz 3
              have hs10 := Lib.hid (hs9.setAt [_] 3 (.slice p7 T2.length c7))
              refine wpAnyH_ready (rs := [6]) (by kernel_rfl) (by simp) ?_
              refine AllReadyH.cons rfl (fun K hK => ?_) (AllReadyH.nil)
              rw [if_pos (by rfl)]
              go_wp2_with fail
              refine hK.out _ _ (hs10.out.li (bxM b8 (mkA (.slice pm m.cols.length cm) m)) (by simp)).2 (fun hHeld2 => ?_)
              clear hHeld hK
              have hHeld := hHeld2
              clear hHeld2
              (try simp only [Act.put, List.getElem_toArray, List.getElem_cons_zero, List.getElem_cons_succ, List.setIfInBounds_toArray, List.set_cons_zero, List.set_cons_succ])
              refine wpAnyH_done (by kernel_rfl) ?_ _
              clear hHeld
              go_wp2_with fail
              go_meet
              case rel => exact ⟨rfl, p7, c7, hs10⟩
          case rest =>
            obtain ⟨rfl, p7, c7, S30⟩ := hcut
            obtain ⟨y7, rfl⟩ : ∃ y : World, y = wc := ⟨_, rfl⟩
            have S31 : Hid (Sep B w y7 (bxL b4 zL :: bxL b9 #[.slice p1 n c1, .slice p2 x.marks.length c2, .slice p3 x.counts.length c3, .slice p7 T2.length c7] :: rT (.slice p7 T2.length c7) T2 :: bxM b8 (mkA (.slice pm m.cols.length cm) m) :: rI (.slice pm m.cols.length cm) m.cols :: rR (.slice p1 n c1) lst :: rM (.slice p2 x.marks.length c2) vs x.marks :: rI (.slice p3 x.counts.length c3) x.counts :: (colsI vs x.marks ++ XX))) := Lib.hid ((((((((S30.out.to 7 (by simp)).to 7 (by simp)).to 7 (by simp)).to 6 (by simp)).to 6 (by simp)).to 5 (by simp)).to 6 (by simp)).to 7 (by simp))
            clear S30 SY HEN
            have w0_ : y7.cell? ⟨b9, 0, none⟩ = some (.slice p1 n c1) := S31.out.tl.boxAt 0
            have w1_ : y7.cell? ⟨b9, 1, none⟩ = some (.slice p2 x.marks.length c2) := S31.out.tl.boxAt 1
            have w2_ : y7.cell? ⟨b9, 2, none⟩ = some (.slice p3 x.counts.length c3) := S31.out.tl.boxAt 2
            have w3_ : y7.cell? ⟨b9, 3, none⟩ = some (.slice p7 T2.length c7) := S31.out.tl.boxAt 3
            have z0 : y7.cell? ⟨b4, 0, none⟩ = some (.slice none 0 0) := S31.out.boxAt 0
            have z1 : y7.cell? ⟨b4, 1, none⟩ = some (.slice none 0 0) := S31.out.boxAt 1
            have z2 : y7.cell? ⟨b4, 2, none⟩ = some (.slice none 0 0) := S31.out.boxAt 2
            have z3 : y7.cell? ⟨b4, 3, none⟩ = some (.slice none 0 0) := S31.out.boxAt 3
            have zf0 : y7.frozen? ⟨b4, 0, none⟩ = false := S31.out.fz 0
            have zf1 : y7.frozen? ⟨b4, 1, none⟩ = false := S31.out.fz 1
            have zf2 : y7.frozen? ⟨b4, 2, none⟩ = false := S31.out.fz 2
            have zf3 : y7.frozen? ⟨b4, 3, none⟩ = false := S31.out.fz 3
            have SZ := Lib.hid ((((S31.out.setAt [] 0 (.slice p1 n c1)).setAt [] 1 (.slice p2 x.marks.length c2)).setAt [] 2 (.slice p3 x.counts.length c3)).setAt [] 3 (.slice p7 T2.length c7))
            clear S31
            go_wp2_with fail
            have e := HRES.out
            subst e
            refine bodyPost_ret (results_lt rfl _ _ b4 _ rfl SZ.out.at.2 rfl) rfl ?_
            refine ⟨_, _, _, _, vs, rfl, HVL.out, ?_⟩
            have h2 := ((((((((SZ.out.to 4 (by simp)).to 4 (by simp)).to 3 (by simp)).to 3 (by simp)).to 4 (by simp)).to 7 (by simp)).to 7 (by simp)).to 7 (by simp))
            have h3 := h2.sub (List.Sublist.cons_cons _ (List.Sublist.cons_cons _ (List.Sublist.cons_cons _ (List.Sublist.cons_cons _ (.cons _ (.cons _ (.cons _ (.cons _ (.refl (colsI vs x.marks ++ XX))))))))))
            exact HW0.out _ (_ :: _ :: _ :: _ :: colsI vs x.marks) h3
  · have h9b : (((at_ : Nat) : Int) != ((s.size : Nat) : Int)) = true := by simp; omega
    have HF : Hid (ok = false) := Lib.hid (by rw [← HA2.out]; simp; omega)
    have HRES := Lib.hid (HERR.out HF.out)
    clear HA2 HR HERR HRW HRW1
    have z0 : wr.cell? ⟨b4, 0, none⟩ = some (.slice none 0 0) := S2.out.boxAt 0
    have z1 : wr.cell? ⟨b4, 1, none⟩ = some (.slice none 0 0) := S2.out.boxAt 1
    have z2 : wr.cell? ⟨b4, 2, none⟩ = some (.slice none 0 0) := S2.out.boxAt 2
    have z3 : wr.cell? ⟨b4, 3, none⟩ = some (.slice none 0 0) := S2.out.boxAt 3
    have zf0 : wr.frozen? ⟨b4, 0, none⟩ = false := S2.out.fz 0
    have zf1 : wr.frozen? ⟨b4, 1, none⟩ = false := S2.out.fz 1
    have zf2 : wr.frozen? ⟨b4, 2, none⟩ = false := S2.out.fz 2
    have zf3 : wr.frozen? ⟨b4, 3, none⟩ = false := S2.out.fz 3
    have SZ := Lib.hid (((((S2.out.setAt [] 0 (.slice none 0 0)).setAt [] 1 (.slice none 0 0)).setAt [] 2 (.slice none 0 0)).setAt [] 3 (.slice none 0 0)))
    clear S2
    go_wp2_with fail
    have e := HRES.out
    subst e
    refine bodyPost_ret (results_lt rfl _ _ b4 _ rfl SZ.out.at.2 rfl) rfl ?_
    exact ⟨_, _, _, _, [], rfl, rfl, ((((HW0.out _ [] SZ.out.tl).none_ 40 3).none_ 3 1).none_ 36 5).none_ 38 3⟩
end Go.Proofs.Ytemkppjdfjoipaa.I1.X
