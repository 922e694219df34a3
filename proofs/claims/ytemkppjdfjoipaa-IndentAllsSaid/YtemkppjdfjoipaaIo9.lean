/- Package indent. -/
import Derived.Test.YtemkppjdfjoipaaProg
import Derived.Test.YtemkppjdfjoipaaIv
import Derived.Great.BuildSlice
import Derived.WalkKit
import Derived.Maps.OwnSet
import Derived.Maps.OwnOps
import Derived.Maps.Own
import Derived.DeepKeys5
import Derived.BigFrame
import Derived.WalkMore
import Derived.ScopeJumps
import Derived.StillTailTactics
import Derived.Stop.BytesEq
import Derived.WalkLawsBesides
import Derived.WalkSpells
import Derived.Outline
import Derived.Lib.Walk
import Derived.Lib.Hide
import Derived.Lib.Slices
import Derived.Lib.Strings
import Derived.RegionTactic
import Derived.LoopTactic
import Derived.Below
import Derived.IntWalk
import Derived.Deep.QuietTactic
import Derived.BigQuiet
import Derived.Deep.MidRow
import Derived.Maps.AppendAt
import Derived.Laws.Rows
import Derived.Laws.Tables
import Derived.Deep.WholeRow
import Derived.Deep.Cut
import Derived.Deep.CutRange
import Derived.Lib.SliceRun
import Derived.Laws.MakeOwn
import Derived.Deep.RegionLaw
import Derived.Deep.RegionLawGrows
import Derived.Deep.RegionHeld3
import Derived.RegionCalls
import Derived.Deep.RegionWith
import Derived.Deep.Light
import Derived.Laws.CopyOwn
import Derived.Laws.ResultCell
namespace Go.Proofs.Ytemkppjdfjoipaa.I1
set_option linter.unusedSimpArgs false
set_option linter.unusedVariables false
set_option maxRecDepth 100000
open Go.RowKit
/- All. -/
set_option maxHeartbeats 32000000 in
theorem all_any {B : Nat} {D : Nat → Prop} {w0 w : World} {s : ByteArray} {lst : List Rw} {p : Option Addr} {c : Nat} {XX : List It} (hl : lst.length ≤ 1000000) (hss : s.size ≤ 9223372036854775806) (hD : ∀ b, D b → b < B) (hrw : RW D w lst (.slice p lst.length c)) (hs : Sep B w0 w XX) :
    Calls Try.prog 9 #[.string s, .slice p lst.length c] w (AllP B w0 XX (allQ s lst)) := by
  obtain ⟨R, hR⟩ : ∃ R, allQ s lst = R := ⟨_, rfl⟩
  rw [hR]
  have HR := Lib.hid hR
  clear hR
  have HRW : Hid (∀ z, Below B w z → RW D z lst (.slice p lst.length c) ∧ ∀ b, D b → b < z.heap.size) := Lib.hid fun z hb => ⟨hrw.mono (D := D) (E := D) (fun b h => h) (fun b h _ => hb.block b (hD b h)), fun b h => Nat.lt_of_lt_of_le (hD b h) (Nat.le_trans hs.sz hb.size)⟩
  have hz46 := zero46
  have hz24 := zero24
  have hz26 := zero26
  obtain ⟨b4, hb4⟩ : ∃ b, w.heap.size = b := ⟨_, rfl⟩
  have S1 := Lib.hid ((hs.rebase).allocAt hb4 (.cells zL 28))
  have HW0 := Lib.hid (fun (z : World) (Y : List It) (h : Sep B w z (Y ++ XX)) => hs.onto h)
  clear hs hrw
  go_enter Try.func9, Try.ntmps9
  go_upto_region 1 with fail
  refine at_world (fun y => Sep B w y (bxL b4 zL :: XX)) S1.out fun y hy => ?_
  have S2 := Lib.hid hy
  clear S1 hy hb4
  by_cases hlong : 65536 < s.size
  · have hlI : (65536 : Int) < (s.size : Int) := by omega
    have HRES : Hid (R = (([], ⟨[], [], []⟩), 3)) := Lib.hid (by rw [← HR.out]; unfold allQ; rw [if_pos hlong])
    clear HR HRW
    have z0 : y.cell? ⟨b4, 0, none⟩ = some (.slice none 0 0) := S2.out.boxAt 0
    have z1 : y.cell? ⟨b4, 1, none⟩ = some (.slice none 0 0) := S2.out.boxAt 1
    have z2 : y.cell? ⟨b4, 2, none⟩ = some (.slice none 0 0) := S2.out.boxAt 2
    have z3 : y.cell? ⟨b4, 3, none⟩ = some (.slice none 0 0) := S2.out.boxAt 3
    have zf0 : y.frozen? ⟨b4, 0, none⟩ = false := S2.out.fz 0
    have zf1 : y.frozen? ⟨b4, 1, none⟩ = false := S2.out.fz 1
    have zf2 : y.frozen? ⟨b4, 2, none⟩ = false := S2.out.fz 2
    have zf3 : y.frozen? ⟨b4, 3, none⟩ = false := S2.out.fz 3
    have SZ := Lib.hid (((((S2.out.setAt [] 0 (.slice none 0 0)).setAt [] 1 (.slice none 0 0)).setAt [] 2 (.slice none 0 0)).setAt [] 3 (.slice none 0 0)))
    clear S2
    go_wp2_with fail
    have e := HRES.out
    subst e
    refine bodyPost_ret (results_lt rfl _ _ b4 _ rfl SZ.out.at.2 rfl) rfl ?_
    exact ⟨_, _, _, _, [], rfl, rfl, ((((HW0.out _ [] SZ.out.tl).none_ 40 3).none_ 3 1).none_ 36 5).none_ 38 3⟩
  have hlI : ¬ (65536 : Int) < (s.size : Int) := by omega
  obtain ⟨ok, hok⟩ : ∃ b, areP (s.size : Nat) lst = b := ⟨_, rfl⟩
  have HOK := Lib.hid hok
  have HPA := Lib.hid (pieces_any (s := s) (by omega) (by omega) (HRW.out y S2.out.bel).2 (HRW.out y S2.out.bel).1)
  rw [hok] at HPA
  clear hok
  go_wp2_with fail
  refine HPA.out.mono ?_
  rintro _ w1 ⟨rfl, hb⟩
  have S3 := Lib.hid (S2.out.up hb)
  clear hb S2 HPA
  cases ok with
  | false =>
    have HRES : Hid (R = (([], ⟨[], [], []⟩), 2)) := Lib.hid (by rw [← HR.out]; unfold allQ; rw [if_neg hlong, if_pos HOK.out])
    clear HR HRW
    have z0 : w1.cell? ⟨b4, 0, none⟩ = some (.slice none 0 0) := S3.out.boxAt 0
    have z1 : w1.cell? ⟨b4, 1, none⟩ = some (.slice none 0 0) := S3.out.boxAt 1
    have z2 : w1.cell? ⟨b4, 2, none⟩ = some (.slice none 0 0) := S3.out.boxAt 2
    have z3 : w1.cell? ⟨b4, 3, none⟩ = some (.slice none 0 0) := S3.out.boxAt 3
    have zf0 : w1.frozen? ⟨b4, 0, none⟩ = false := S3.out.fz 0
    have zf1 : w1.frozen? ⟨b4, 1, none⟩ = false := S3.out.fz 1
    have zf2 : w1.frozen? ⟨b4, 2, none⟩ = false := S3.out.fz 2
    have zf3 : w1.frozen? ⟨b4, 3, none⟩ = false := S3.out.fz 3
    have SZ := Lib.hid (((((S3.out.setAt [] 0 (.slice none 0 0)).setAt [] 1 (.slice none 0 0)).setAt [] 2 (.slice none 0 0)).setAt [] 3 (.slice none 0 0)))
    clear S3
    go_wp2_with fail
    have e := HRES.out
    subst e
    refine bodyPost_ret (results_lt rfl _ _ b4 _ rfl SZ.out.at.2 rfl) rfl ?_
    exact ⟨_, _, _, _, [], rfl, rfl, ((((HW0.out _ [] SZ.out.tl).none_ 40 3).none_ 3 1).none_ 36 5).none_ 38 3⟩
  | true =>
  have HRES : Hid (R = ((lst, ⟨(allR (bl s) lst).1.marks, (allR (bl s) lst).1.counts, (allR (bl s) lst).1.toks ++ endF (allR (bl s) lst).2⟩), 0)) := Lib.hid (by rw [← HR.out]; unfold allQ; rw [if_neg hlong, if_neg (by rw [HOK.out]; decide)])
  clear HR
  go_wp2_with fail
  refine (first_any S3.out).mono ?_
  rintro _ w2 ⟨v0, rfl, hs4⟩
  obtain ⟨p0, c0, rfl⟩ : ∃ p c, v0 = .slice p 1 c := row_form hs4.at
  unfold mkA m0
  simp only []
  have S4 := Lib.hid hs4
  obtain ⟨b6, hb6⟩ : ∃ b, w2.heap.size = b := ⟨_, rfl⟩
  have S5 := Lib.hid (S4.out.allocAt hb6 (.cells #[.slice p0 1 c0, .int .i64 0, .int .i64 0, .bool true, .int .i64 0] 36))
  clear hs4 S3 S4
  go_upto_region 6 with fail
  clear hb6
  refine wp_region_owed2 (fun l act w1 => ∃ X : Nat → Value, act = ⟨(List.toArray (.string s :: .slice p lst.length c :: undef :: undef :: .pointer (some ⟨b4, 0, none⟩) :: .int .i64 0 :: .pointer (some ⟨b6, 0, none⟩) :: X 6 :: undef :: undef :: undef :: undef :: .bool false :: .string s :: .int .i64 (s.size : Nat) :: .bool false :: undef :: .bool false :: .string s :: .slice p lst.length c :: .bool true :: .bool false :: undef :: .agg #[.slice p0 1 c0, .int .i64 0, .int .i64 0, .bool true, .int .i64 0] :: X 0 :: X 1 :: X 2 :: X 3 :: X 4 :: X 5 :: undef :: undef :: undef :: undef :: undef :: undef :: undef :: undef :: undef :: undef :: undef :: undef :: undef :: undef :: undef :: undef :: undef :: undef :: undef :: undef :: undef :: undef :: undef :: undef :: undef :: undef :: undef :: undef :: undef :: undef :: undef :: undef :: undef :: undef :: undef :: undef :: undef :: undef :: undef :: undef :: undef :: undef :: undef :: undef :: undef :: undef :: undef :: undef :: [])), []⟩ ∧ (∀ i, l i = true → ([0, 2] : List Nat).contains i = true → X i = (fun z1 => ([(.slice p lst.length c), undef, (.agg #[.slice p0 1 c0, .int .i64 0, .int .i64 0, .bool true, .int .i64 0]), undef, undef, undef, undef, undef] : List Value).getD z1 undef) i) ∧ S6 B w lst (.slice p0 1 c0) m0 (bxM b6 #[.slice p0 1 c0, .int .i64 0, .int .i64 0, .bool true, .int .i64 0] :: rI (.slice p0 1 c0) [0] :: bxL b4 zL :: XX) (l 1) (l 3) (l 4) (l 5) (l 6) (l 7) (X 1) (X 3) (X 4) (X 5) (X 6) w1) (by kernel_rfl) (by kernel_rfl) ⟨(fun i => ([undef, undef, undef, undef, undef, undef, undef, undef] : List Value).getD i undef), rfl, (fun i h => by cases h), (S6.start (S5.out.drew))⟩ ?st ?fin
  case st =>
    go_light
    refine Owed.next (n := 0) (o := ?o0) ?ho0 ?h0 ?hs0
    case ho0 => rfl
    case h0 =>
      intro l act w1 hw hl hI K hK
      obtain ⟨hc, X, rfl, hX, hT⟩ := hI
      have HX := Lib.hid (packsM 0 hX [] (fun _ h => nomatch h))
      clear hX
      rw [if_pos (by rfl)]
      go_wp2_with fail
      exact hK.out _ _ ⟨hc.next hw, fun z0 => bif (0 :: []).contains z0 then (fun z1 => ([(.slice p lst.length c), undef, (.agg #[.slice p0 1 c0, .int .i64 0, .int .i64 0, .bool true, .int .i64 0]), undef, undef, undef, undef, undef] : List Value).getD z1 undef) z0 else X z0, rfl, HX.out, hT⟩
    refine Owed.next (n := 1) (o := ?o1) ?ho1 ?h1 ?hs1
    case ho1 => rfl
    case h1 =>
      intro l act w1 hw hl hI K hK
      obtain ⟨hc, X, rfl, hX, hT⟩ := hI
      have h0 : X 0 = (.slice p lst.length c) := hX 0 (hw 0 (by kernel_rfl)) (by kernel_rfl)
      have HX := fun v => Lib.hid (packsN 1 v hX (by kernel_rfl) [0] (List.forall_mem_cons.2 ⟨hw 0 (by kernel_rfl), (fun _ h => nomatch h)⟩))
      clear hX
      have g5 : l 5 = false := hc.not 5 1 hl (by kernel_rfl)
      have g7 : l 7 = false := hc.not 7 5 g5 (by kernel_rfl)
      obtain ⟨Y9, hY9⟩ := hT.sep
      have HCR := Lib.hid (cloneR_any (by omega) (HRW.out w1 hY9.bel).2 (HRW.out w1 hY9.bel).1)
      clear hY9
      rw [h0]
      clear h0
      rw [if_pos (by rfl)]
      go_simp
      go_at_call 27
      refine HCR.out.mono ?_
      rintro _ w5 ⟨v5, rfl, hr5, hb5⟩
      exact hK.out _ _ ⟨hc.next hw, fun z0 => bif [1].contains z0 then v5 else bif ([0] : List Nat).contains z0 then (fun z1 => ([(.slice p lst.length c), undef, (.agg #[.slice p0 1 c0, .int .i64 0, .int .i64 0, .bool true, .int .i64 0]), undef, undef, undef, undef, undef] : List Value).getD z1 undef) z0 else X z0, rfl, (HX _).out, hT.o1 hl g5 g7 hb5 hr5⟩
    refine Owed.next (n := 2) (o := ?o2) ?ho2 ?h2 ?hs2
    case ho2 => rfl
    case h2 =>
      intro l act w1 hw hl hI K hK
      obtain ⟨hc, X, rfl, hX, hT⟩ := hI
      have HX := Lib.hid (packsM 2 hX [] (fun _ h => nomatch h))
      clear hX
      obtain ⟨Y9, hY9⟩ := hT.sep
      have hb9 : w1.heap[b6]? = some (.cells #[.slice p0 1 c0, .int .i64 0, .int .i64 0, .bool true, .int .i64 0] 36 (0, 0)) := (hY9.li (bxM b6 #[.slice p0 1 c0, .int .i64 0, .int .i64 0, .bool true, .int .i64 0]) (List.mem_append_right _ (List.mem_cons_self ..))).2
      have dd0 : w1.cell? ⟨b6, 0, none⟩ = some (.slice p0 1 c0) := cell_of_row w1 b6 0 _ 36 (0, 0) hb9
      have dd1 : w1.cell? ⟨b6, 1, none⟩ = some (.int .i64 0) := cell_of_row w1 b6 1 _ 36 (0, 0) hb9
      have dd2 : w1.cell? ⟨b6, 2, none⟩ = some (.int .i64 0) := cell_of_row w1 b6 2 _ 36 (0, 0) hb9
      have dd3 : w1.cell? ⟨b6, 3, none⟩ = some (.bool true) := cell_of_row w1 b6 3 _ 36 (0, 0) hb9
      have dd4 : w1.cell? ⟨b6, 4, none⟩ = some (.int .i64 0) := cell_of_row w1 b6 4 _ 36 (0, 0) hb9
      clear hY9 hb9
      rw [if_pos (by rfl)]
      go_wp2_with fail
      exact hK.out _ _ ⟨hc.next hw, fun z0 => bif (2 :: []).contains z0 then (fun z1 => ([(.slice p lst.length c), undef, (.agg #[.slice p0 1 c0, .int .i64 0, .int .i64 0, .bool true, .int .i64 0]), undef, undef, undef, undef, undef] : List Value).getD z1 undef) z0 else X z0, rfl, HX.out, hT⟩
    refine Owed.next (n := 3) (o := ?o3) ?ho3 ?h3 ?hs3
    case ho3 => rfl
    case h3 =>
      intro l act w1 hw hl hI K hK
      obtain ⟨hc, X, rfl, hX, hT⟩ := hI
      have h2 : X 2 = (.agg #[.slice p0 1 c0, .int .i64 0, .int .i64 0, .bool true, .int .i64 0]) := hX 2 (hw 2 (by kernel_rfl)) (by kernel_rfl)
      have HX := fun v => Lib.hid (packsN 3 v hX (by kernel_rfl) [2] (List.forall_mem_cons.2 ⟨hw 2 (by kernel_rfl), (fun _ h => nomatch h)⟩))
      clear hX
      have g5 : l 5 = false := hc.not 5 3 hl (by kernel_rfl)
      have g7 : l 7 = false := hc.not 7 5 g5 (by kernel_rfl)
      rw [h2]
      clear h2
      rw [if_pos (by rfl)]
      go_wp2_with fail
      exact hK.out _ _ ⟨hc.next hw, fun z0 => bif [3].contains z0 then (.slice (some ⟨w1.heap.size, 0, none⟩) 1 1) else bif ([2] : List Nat).contains z0 then (fun z1 => ([(.slice p lst.length c), undef, (.agg #[.slice p0 1 c0, .int .i64 0, .int .i64 0, .bool true, .int .i64 0]), undef, undef, undef, undef, undef] : List Value).getD z1 undef) z0 else X z0, rfl, (HX _).out, hT.o3 hl g5 g7⟩
    refine Owed.next (n := 4) (o := ?o4) ?ho4 ?h4 ?hs4
    case ho4 => rfl
    case h4 =>
      intro l act w1 hw hl hI K hK
      obtain ⟨hc, X, rfl, hX, hT⟩ := hI
      have HX := fun v => Lib.hid (packsN 4 v hX (by kernel_rfl) [] (fun _ h => nomatch h))
      clear hX
      have g5 : l 5 = false := hc.not 5 4 hl (by kernel_rfl)
      have g7 : l 7 = false := hc.not 7 5 g5 (by kernel_rfl)
      rw [if_pos (by rfl)]
      go_wp2_with fail
      exact hK.out _ _ ⟨hc.next hw, fun z0 => bif [4].contains z0 then (.slice (some ⟨w1.heap.size, 0, none⟩) 1 1) else bif ([] : List Nat).contains z0 then (fun z1 => ([(.slice p lst.length c), undef, (.agg #[.slice p0 1 c0, .int .i64 0, .int .i64 0, .bool true, .int .i64 0]), undef, undef, undef, undef, undef] : List Value).getD z1 undef) z0 else X z0, rfl, (HX _).out, hT.o4 hl g5 g7⟩
    refine Owed.next (n := 5) (o := ?o5) ?ho5 ?h5 ?hs5
    case ho5 => rfl
    case h5 =>
      intro l act w1 hw hl hI K hK
      obtain ⟨hc, X, rfl, hX, hT⟩ := hI
      have HX := fun v => Lib.hid (packsN 5 v hX (by kernel_rfl) [] (fun _ h => nomatch h))
      clear hX
      have k1 : l 1 = true := hw 1 (by kernel_rfl)
      have k3 : l 3 = true := hw 3 (by kernel_rfl)
      have k4 : l 4 = true := hw 4 (by kernel_rfl)
      obtain ⟨p1, n1, c1, p3, n3, c3, p4, n4, c4, e1, e3, e4⟩ := hT.at5 k1 k3 k4
      rw [if_pos (by rfl)]
      rw [e1, e3, e4]
      go_wp2_with fail
      rw [← e1, ← e3, ← e4]
      exact hK.out _ _ ⟨hc.next hw, fun z0 => bif [5].contains z0 then (.agg #[X 1, X 3, X 4, .slice none 0 0]) else bif ([] : List Nat).contains z0 then (fun z1 => ([(.slice p lst.length c), undef, (.agg #[.slice p0 1 c0, .int .i64 0, .int .i64 0, .bool true, .int .i64 0]), undef, undef, undef, undef, undef] : List Value).getD z1 undef) z0 else X z0, rfl, (HX _).out, hT.o5 k1 k3 k4⟩
    refine Owed.next (n := 6) (o := ?o6) ?ho6 ?h6 ?hs6
    case ho6 => rfl
    case h6 =>
      intro l act w1 hw hl hI K hK
      obtain ⟨hc, X, rfl, hX, hT⟩ := hI
      have HX := fun v => Lib.hid (packsN 6 v hX (by kernel_rfl) [] (fun _ h => nomatch h))
      clear hX
      have g7 : l 7 = false := hc.not 7 6 hl (by kernel_rfl)
      rw [if_pos (by rfl)]
      go_wp2_with fail
      exact hK.out _ _ ⟨hc.next hw, fun z0 => bif [6].contains z0 then (.pointer (some ⟨w1.heap.size, 0, none⟩)) else bif ([] : List Nat).contains z0 then (fun z1 => ([(.slice p lst.length c), undef, (.agg #[.slice p0 1 c0, .int .i64 0, .int .i64 0, .bool true, .int .i64 0]), undef, undef, undef, undef, undef] : List Value).getD z1 undef) z0 else X z0, rfl, (HX _).out, hT.o6 hl g7⟩
    refine Owed.next (n := 7) (o := ?o7) ?ho7 ?h7 ?hs7
    case ho7 => rfl
    case h7 =>
      intro l act w1 hw hl hI K hK
      obtain ⟨hc, X, rfl, hX, hT⟩ := hI
      have HX := fun v => Lib.hid (packsN 7 v hX (by kernel_rfl) [] (fun _ h => nomatch h))
      clear hX
      have k6 : l 6 = true := hw 6 (by kernel_rfl)
      have k5 : l 5 = true := hw 5 (by kernel_rfl)
      have k1 : l 1 = true := hc 5 k5 1 (by kernel_rfl)
      have k3 : l 3 = true := hc 5 k5 3 (by kernel_rfl)
      have k4 : l 4 = true := hc 5 k5 4 (by kernel_rfl)
      obtain ⟨b7, p1, n1, c1, p3, n3, c3, p4, n4, c4, e6, e5, hat, hN⟩ := hT.at7 k1 k3 k4 k5 k6 hl
      rw [if_pos (by rfl)]
      refine wp_store_row 28 (.tmp 7) (.tmp 29) rfl b7 #[.slice p1 n1 c1, .slice p3 n3 c3, .slice p4 n4 c4, .slice none 0 0] e6 e5 28 _ hat info46 rfl (by simp [Value.oneCell']) ?_
      exact hK.out _ _ ⟨hc.next hw, fun z0 => bif [7].contains z0 then undef else bif ([] : List Nat).contains z0 then (fun z1 => ([(.slice p lst.length c), undef, (.agg #[.slice p0 1 c0, .int .i64 0, .int .i64 0, .bool true, .int .i64 0]), undef, undef, undef, undef, undef] : List Value).getD z1 undef) z0 else X z0, rfl, (HX _).out, hN⟩
    exact Owed.last rfl
  case fin =>
    intro l act w1 hl hI
    obtain ⟨X, rfl, hX, hT⟩ := hI
    have h0 : X 0 = (.slice p lst.length c) := hX 0 (hl 0 (by kernel_rfl)) (by kernel_rfl)
    have h2 : X 2 = (.agg #[.slice p0 1 c0, .int .i64 0, .int .i64 0, .bool true, .int .i64 0]) := hX 2 (hl 2 (by kernel_rfl)) (by kernel_rfl)
    rw [h0, h2]
    clear h0 h2 hX
    obtain ⟨b7, p1, c1, p3, c3, p4, c4, e6, hs7⟩ := hT.fin (hl 1 (by kernel_rfl)) (hl 3 (by kernel_rfl)) (hl 4 (by kernel_rfl)) (hl 6 (by kernel_rfl)) (hl 7 (by kernel_rfl))
    rw [e6]
    obtain ⟨x1, hx1⟩ : ∃ x, X 1 = x := ⟨_, rfl⟩
    obtain ⟨x3, hx3⟩ : ∃ x, X 3 = x := ⟨_, rfl⟩
    obtain ⟨x4, hx4⟩ : ∃ x, X 4 = x := ⟨_, rfl⟩
    obtain ⟨x5, hx5⟩ : ∃ x, X 5 = x := ⟨_, rfl⟩
    rw [hx1, hx3, hx4, hx5]
    have S7 := Lib.hid hs7
    clear hT e6 hl hs7 hx1 hx3 hx4 hx5 S5
    have HLD : Hid (areP (s.size : Nat) (lst.drop 0) = true) := HOK
    obtain ⟨RR, hRR⟩ : ∃ z, allR (bl s) lst = z := ⟨_, rfl⟩
    rw [hRR] at HRES
    have HRR : Hid (runF ⟨[m0], [0], []⟩ m0 (bl s) (lst.drop 0) = RR) := Lib.hid hRR
    have HM0 : Hid (May m0 ∧ m0.lead + (s.size : Int) ≤ 65536) := Lib.hid ⟨m0_may, by simp only [m0]; omega⟩
    have HIN : Hid (rI (.slice p0 1 c0) m0.cols ∈ colsI [.slice p0 1 c0] [m0]) := Lib.hid (List.mem_cons_self ..)
    have S8 : Hid (Sep B w w1 (bxL b7 #[.slice p1 lst.length c1, .slice p3 1 c3, .slice p4 1 c4, .slice none 0 0] :: bxM b6 (mkA (.slice p0 1 c0) m0) :: bxL b4 zL :: rR (.slice p1 lst.length c1) lst :: rM (.slice p3 1 c3) [.slice p0 1 c0] [m0] :: rI (.slice p4 1 c4) [0] :: rT (.slice none 0 0) [] :: (colsI [.slice p0 1 c0] [m0] ++ XX))) := Lib.hid (by
      exact (((((((((S7.out.none_ 40 3).to 6 (by simp)).to 1 (by simp)).to 5 (by simp)).to 5 (by simp)).to 5 (by simp)).to 7 (by simp)).to 7 (by simp)).to 7 (by simp)))
    clear S7 hRR HOK
    go_wp2_with fail
    go_loopw [0, 32] (fun q i wr => ∃ (j : Nat) (s' : ByteArray) (x : Lx) (m : Mk) (vs : List Value) (vm v1 v2 v3 v4 : Value), q = .string s' ∧ i = .int .i64 (j : Nat) ∧ j ≤ lst.length ∧ s'.size ≤ s.size ∧ x.marks.length = j + 1 ∧ x.counts.length = j + 1 ∧ x.toks.length ≤ 5000 * j ∧ vs.length = j + 1 ∧ Hid (runF x m (bl s') (lst.drop j) = RR) ∧ Hid (areP (s'.size : Nat) (lst.drop j) = true) ∧ Hid (May m ∧ m.lead + (s'.size : Int) ≤ 65536) ∧ Hid (rI vm m.cols ∈ colsI vs x.marks) ∧ Hid (Sep B w wr (bxL b7 #[v1, v2, v3, v4] :: bxM b6 (mkA vm m) :: bxL b4 zL :: rR v1 lst :: rM v2 vs x.marks :: rI v3 x.counts :: rT v4 x.toks :: (colsI vs x.marks ++ XX)))) (fun _ i _ => lst.length - (intOf i).toNat)
    case atStart => exact ⟨0, s, ⟨[m0], [0], []⟩, m0, [.slice p0 1 c0], _, _, _, _, _, rfl, rfl, by omega, by omega, rfl, rfl, by simp, rfl, HRR, HLD, HM0, HIN, S8⟩
    case round =>
    clear HRR HLD HM0 HIN S8
    obtain ⟨j, s', x, m, vs, vm, v1, v2, v3, v4, rfl, rfl, hj, hsz, hxm, hxc, hxt, hvs, HRR, HLD, HM0, HIN, HS⟩ := hrel
    have HLN := Lib.hid (And.intro hxm (And.intro hxc (And.intro hxt hvs)))
    clear hxm hxc hxt hvs
    obtain ⟨p1, c1, rfl⟩ := row_form (HS.out.li (rR v1 lst) (by simp))
    obtain ⟨p2, c2, rfl⟩ := row_form (HS.out.li (rM v2 vs x.marks) (by simp))
    obtain ⟨p3, c3, rfl⟩ := row_form (HS.out.li (rI v3 x.counts) (by simp))
    obtain ⟨p4, c4, rfl⟩ := row_form (HS.out.li (rT v4 x.toks) (by simp))
    obtain ⟨pm, cm, rfl⟩ := row_form (HS.out.li (rI vm m.cols) (by simp [HIN.out]))
    by_cases hlt : j < lst.length
    · have hltI : (j : Int) < (lst.length : Int) := by omega
      have hjI : ¬ (j : Int) < 0 := by omega
      obtain ⟨p', c', he, -, hh⟩ := (HRW.out wr HS.out.bel).1
      have hDw := (HRW.out wr HS.out.bel).2
      injection he with e1 e2 e3
      subst e1 e3
      obtain ⟨b, o, rfl, hDb, hc⟩ := hh (by intro e; rw [e] at hlt; simp at hlt)
      obtain ⟨g0, g1, g2⟩ := rwL_get lst j hlt
      have d0 : wr.cell? ⟨b, o + j * 3, none⟩ = some (.int .i64 lst[j].1) := hc _ _ g0
      have d1 : wr.cell? ⟨b, o + j * 3 + 1, none⟩ = some (.int .i64 lst[j].2.1) := by rw [Nat.add_assoc]; exact hc _ _ g1
      have d2 : wr.cell? ⟨b, o + j * 3 + 2, none⟩ = some (.int .i64 lst[j].2.2) := by rw [Nat.add_assoc]; exact hc _ _ g2
      have HDR : Hid (lst.drop j = lst[j] :: lst.drop (j + 1)) := Lib.hid (List.drop_eq_getElem_cons hlt)
      obtain ⟨⟨k, n, lk⟩, hx⟩ : ∃ z, lst[j] = z := ⟨_, rfl⟩
      rw [hx] at d0 d1 d2 HDR
      simp only [] at d0 d1 d2
      rw [HDR.out] at HRR HLD
      obtain ⟨hn1, hn2, hn3⟩ := areP_pos HLD.out
      simp only [] at hn1 hn2 hn3
      obtain ⟨nn, rfl⟩ : ∃ nn : Nat, n = (nn : Int) := ⟨n.toNat, by omega⟩
      have HLD2 := Lib.hid hn3
      clear HLD hn3 HDR hx g0 g1 g2 hc hh e2
      obtain ⟨b9, hb9⟩ : ∃ b, wr.heap.size = b := ⟨_, rfl⟩
      have S9 := Lib.hid (HS.out.allocAt hb9 (.cells #[.int .i64 k, .int .i64 (nn : Nat), .int .i64 lk] 38))
      have hDbl := hDw b hDb
      clear HS hDw
      go_upto_region 10 with fail
      clear d0 d1 d2
      refine at_world (fun y => Sep B w y (bxR b9 #[.int .i64 k, .int .i64 (nn : Nat), .int .i64 lk] :: (bxL b7 #[.slice p1 lst.length c1, .slice p2 x.marks.length c2, .slice p3 x.counts.length c3, .slice p4 x.toks.length c4] :: bxM b6 (mkA (.slice pm m.cols.length cm) m) :: bxL b4 zL :: rR (.slice p1 lst.length c1) lst :: rM (.slice p2 x.marks.length c2) vs x.marks :: rI (.slice p3 x.counts.length c3) x.counts :: rT (.slice p4 x.toks.length c4) x.toks :: (colsI vs x.marks ++ XX)))) S9.out fun y hy => ?_
      have S10 := Lib.hid hy
      clear S9 hy hb9 hDbl
      have hex : (s'.extract 0 nn).size = nn := by simp; omega
      obtain ⟨⟨⟨c5, o5, k5, f5, l5⟩, tk5⟩, hST⟩ : ∃ z, stepF m (bl (s'.extract 0 nn)) k (nn : Nat) = z := ⟨_, rfl⟩
      have hmd : Made m (bl (s'.extract 0 nn)) (nn : Nat) := ⟨by omega, by rw [bl_len, hex], by have := HM0.out.2; omega⟩
      have HST := Lib.hid (fun (z : World) (Y : List It) (hin : rI (.slice pm m.cols.length cm) m.cols ∈ Y) (h : Sep B w z Y) => step_in (k := k) (lk := lk) HM0.out.1 hmd (fun b h => h.2.1) (own_iv (h.li _ hin)) h)
      rw [hST] at HST
      have HMAY5 : Hid (May (stepF m (bl (s'.extract 0 nn)) k (nn : Nat)).1) := Lib.hid (stepF_may HM0.out.1 hmd)
      have HLEAD : Hid ((stepF m (bl (s'.extract 0 nn)) k (nn : Nat)).1.lead ≤ m.lead + (nn : Nat)) := Lib.hid (stepF_lead HM0.out.1.l0 (by omega))
      have HLEN := Lib.hid (stepF_len m (bl (s'.extract 0 nn)) k (nn : Nat))
      rw [hST] at HMAY5 HLEAD HLEN
      have HSTE := Lib.hid hST
      unfold mkA rwV at HST
      simp only [] at HST HMAY5 HLEAD HLEN
      clear hmd hST
      have hnI : ((nn : Nat) : Int) ≤ (s'.size : Int) := by omega
      have hnN : nn ≤ s'.size := by omega
      have hn0 : ¬ ((nn : Nat) : Int) < 0 := by omega
      have HINY : Hid (rI (.slice pm m.cols.length cm) m.cols ∈ bxR b9 #[.int .i64 k, .int .i64 (nn : Nat), .int .i64 lk] :: (bxL b7 #[.slice p1 lst.length c1, .slice p2 x.marks.length c2, .slice p3 x.counts.length c3, .slice p4 x.toks.length c4] :: bxM b6 (mkA (.slice pm m.cols.length cm) m) :: bxL b4 zL :: rR (.slice p1 lst.length c1) lst :: rM (.slice p2 x.marks.length c2) vs x.marks :: rI (.slice p3 x.counts.length c3) x.counts :: rT (.slice p4 x.toks.length c4) x.toks :: (colsI vs x.marks ++ XX))) := Lib.hid (List.mem_cons_of_mem _ (List.mem_cons_of_mem _ (List.mem_cons_of_mem _ (List.mem_cons_of_mem _ (List.mem_cons_of_mem _ (List.mem_cons_of_mem _ (List.mem_cons_of_mem _ (List.mem_cons_of_mem _ (List.mem_append_left _ HIN.out)))))))))
      have H6 : Hid (y.drew.heap[b6]? = some (.cells (mkA (.slice pm m.cols.length cm) m) 36 (0, 0))) := Lib.hid S10.out.tl.tl.at.2
      have H9 : Hid (y.drew.heap[b9]? = some (.cells #[.int .i64 k, .int .i64 (nn : Nat), .int .i64 lk] 38 (0, 0))) := Lib.hid S10.out.at.2
      have SY := Lib.hid S10.out.drew
      clear S10
      refine Code.wp_mono (Q := fun e a z => e = .normal ∧ ∃ p5 cp5 t5 b10, a = { tmps := (List.toArray (.string s' :: .slice (some ⟨b, o, none⟩) lst.length c :: undef :: undef :: .pointer (some ⟨b4, 0, none⟩) :: .int .i64 0 :: .pointer (some ⟨b6, 0, none⟩) :: .pointer (some ⟨b7, 0, none⟩) :: undef :: .pointer (some ⟨b9, 0, none⟩) :: .pointer (some ⟨b10, 0, none⟩) :: t5 :: .bool false :: .string s :: .int .i64 (s.size : Nat) :: .bool false :: undef :: .bool false :: .string s :: .slice (some ⟨b, o, none⟩) lst.length c :: .bool true :: .bool false :: undef :: .agg #[.slice p0 1 c0, .int .i64 0, .int .i64 0, .bool true, .int .i64 0] :: .slice (some ⟨b, o, none⟩) lst.length c :: x1 :: .agg #[.slice p0 1 c0, .int .i64 0, .int .i64 0, .bool true, .int .i64 0] :: x3 :: x4 :: x5 :: .slice (some ⟨b, o, none⟩) lst.length c :: .int .i64 (lst.length : Nat) :: .int .i64 (j : Nat) :: .bool true :: .pointer (some ⟨b, o + j * 3, none⟩) :: .agg #[.int .i64 k, .int .i64 (nn : Nat), .int .i64 lk] :: (.tuple #[.agg #[.slice p5 c5.length cp5, .int .i64 o5, .int .i64 k5, .bool f5, .int .i64 l5], t5]) :: (.agg #[.slice pm m.cols.length cm, .int .i64 m.opn, .int .i64 m.col, .bool m.fresh, .int .i64 m.lead]) :: .string s' :: .pointer (some ⟨b9, 1, none⟩) :: .int .i64 (nn : Nat) :: .string (s'.extract 0 nn) :: (.agg #[.int .i64 k, .int .i64 (nn : Nat), .int .i64 lk]) :: (.tuple #[.agg #[.slice p5 c5.length cp5, .int .i64 o5, .int .i64 k5, .bool f5, .int .i64 l5], t5]) :: (.agg #[.slice p5 c5.length cp5, .int .i64 o5, .int .i64 k5, .bool f5, .int .i64 l5]) :: t5 :: u46 :: u47 :: u48 :: u49 :: u50 :: u51 :: u52 :: u53 :: u54 :: u55 :: u56 :: u57 :: u58 :: u59 :: u60 :: u61 :: u62 :: u63 :: u64 :: u65 :: u66 :: u67 :: u68 :: u69 :: u70 :: undef :: undef :: undef :: undef :: undef :: undef :: undef :: [])), defers := [] } ∧ Sep B w z (bxM b10 #[.slice p5 c5.length cp5, .int .i64 o5, .int .i64 k5, .bool f5, .int .i64 l5] :: rT t5 tk5 :: rI (.slice p5 c5.length cp5) c5 :: bxR b9 #[.int .i64 k, .int .i64 (nn : Nat), .int .i64 lk] :: (bxL b7 #[.slice p1 lst.length c1, .slice p2 x.marks.length c2, .slice p3 x.counts.length c3, .slice p4 x.toks.length c4] :: bxM b6 (mkA (.slice pm m.cols.length cm) m) :: bxL b4 zL :: rR (.slice p1 lst.length c1) lst :: rM (.slice p2 x.marks.length c2) vs x.marks :: rI (.slice p3 x.counts.length c3) x.counts :: rT (.slice p4 x.toks.length c4) x.toks :: (colsI vs x.marks ++ XX)))) ?next ?region
      case region =>
        refine wp_region_held_drew (S := fun v => v.heap[b6]? = some (.cells (mkA (.slice pm m.cols.length cm) m) 36 (0, 0)) ∧ v.heap[b9]? = some (.cells #[.int .i64 k, .int .i64 (nn : Nat), .int .i64 lk] 38 (0, 0))) (by kernel_rfl) ⟨H6.out, H9.out⟩ (fun hHeld => ?_)
        refine wpAnyH_take (i := 0) (v := (.agg #[.slice pm m.cols.length cm, .int .i64 m.opn, .int .i64 m.col, .bool m.fresh, .int .i64 m.lead])) rfl (by kernel_rfl) (by kernel_rfl) (by kernel_rfl) (fun _ _ _ h => (by obtain ⟨h, _⟩ := h; cases h)) (Or.inl ⟨by rfl, by (intro w hSw; have q0 : w.cell? ⟨b6, 0, none⟩ = some (.slice pm m.cols.length cm) := cell_of_row w b6 0 _ 36 (0, 0) hSw.1; have q1 : w.cell? ⟨b6, 1, none⟩ = some (.int .i64 m.opn) := cell_of_row w b6 1 _ 36 (0, 0) hSw.1; have q2 : w.cell? ⟨b6, 2, none⟩ = some (.int .i64 m.col) := cell_of_row w b6 2 _ 36 (0, 0) hSw.1; have q3 : w.cell? ⟨b6, 3, none⟩ = some (.bool m.fresh) := cell_of_row w b6 3 _ 36 (0, 0) hSw.1; have q4 : w.cell? ⟨b6, 4, none⟩ = some (.int .i64 m.lead) := cell_of_row w b6 4 _ 36 (0, 0) hSw.1; go_simp)⟩) hHeld ?_
        (try simp only [Act.put, List.getElem_toArray, List.getElem_cons_zero, List.getElem_cons_succ, List.setIfInBounds_toArray, List.set_cons_zero, List.set_cons_succ])
        refine wpAnyH_take (i := 1) (v := (.string s')) rfl (by kernel_rfl) (by kernel_rfl) (by kernel_rfl) (fun _ _ _ h => (by obtain ⟨h, _⟩ := h; cases h)) (Or.inl ⟨by rfl, by (intro w hSw; (try dsimp only at hSw); go_simp)⟩) hHeld ?_
        (try simp only [Act.put, List.getElem_toArray, List.getElem_cons_zero, List.getElem_cons_succ, List.setIfInBounds_toArray, List.set_cons_zero, List.set_cons_succ])
        refine wpAnyH_take (i := 2) (v := (.pointer (some ⟨b9, 1, none⟩))) rfl (by kernel_rfl) (by kernel_rfl) (by kernel_rfl) (fun _ _ _ h => (by obtain ⟨h, _⟩ := h; cases h)) (Or.inl ⟨by rfl, by (intro w hSw; (try dsimp only at hSw); go_simp)⟩) hHeld ?_
        (try simp only [Act.put, List.getElem_toArray, List.getElem_cons_zero, List.getElem_cons_succ, List.setIfInBounds_toArray, List.set_cons_zero, List.set_cons_succ])
        refine wpAnyH_take (i := 3) (v := (.int .i64 (nn : Nat))) rfl (by kernel_rfl) (by kernel_rfl) (by kernel_rfl) (fun _ _ _ h => (by obtain ⟨h, _⟩ := h; cases h)) (Or.inl ⟨by rfl, by (intro w hSw; have q1 : w.cell? ⟨b9, 1, none⟩ = some (.int .i64 (nn : Nat)) := cell_of_row w b9 1 _ 38 (0, 0) hSw.2; go_simp)⟩) hHeld ?_
        (try simp only [Act.put, List.getElem_toArray, List.getElem_cons_zero, List.getElem_cons_succ, List.setIfInBounds_toArray, List.set_cons_zero, List.set_cons_succ])
        refine wpAnyH_take (i := 4) (v := (.string (s'.extract 0 nn))) rfl (by kernel_rfl) (by kernel_rfl) (by kernel_rfl) (fun _ _ _ h => (by obtain ⟨h, _⟩ := h; cases h)) (Or.inl ⟨by rfl, by (intro w hSw; (try dsimp only at hSw); go_simp)⟩) hHeld ?_
        (try simp only [Act.put, List.getElem_toArray, List.getElem_cons_zero, List.getElem_cons_succ, List.setIfInBounds_toArray, List.set_cons_zero, List.set_cons_succ])
        refine wpAnyH_take (i := 5) (v := (.agg #[.int .i64 k, .int .i64 (nn : Nat), .int .i64 lk])) rfl (by kernel_rfl) (by kernel_rfl) (by kernel_rfl) (fun _ _ _ h => (by obtain ⟨h, _⟩ := h; cases h)) (Or.inl ⟨by rfl, by (intro w hSw; have q0 : w.cell? ⟨b9, 0, none⟩ = some (.int .i64 k) := cell_of_row w b9 0 _ 38 (0, 0) hSw.2; have q1 : w.cell? ⟨b9, 1, none⟩ = some (.int .i64 (nn : Nat)) := cell_of_row w b9 1 _ 38 (0, 0) hSw.2; have q2 : w.cell? ⟨b9, 2, none⟩ = some (.int .i64 lk) := cell_of_row w b9 2 _ 38 (0, 0) hSw.2; go_simp)⟩) hHeld ?_
        (try simp only [Act.put, List.getElem_toArray, List.getElem_cons_zero, List.getElem_cons_succ, List.setIfInBounds_toArray, List.set_cons_zero, List.set_cons_succ])
        refine wpAnyH_ready (rs := [6, 10]) (by kernel_rfl) (by simp) ?_
        refine AllReadyH.cons rfl (fun K hK => ?_) (AllReadyH.cons rfl (fun K hK => ?_) AllReadyH.nil)
        · rw [if_pos (by rfl)]
          go_wp2_with fail
          refine (HST.out _ _ HINY.out SY.out).mono ?_
          rintro _ w2 ⟨v5, t5, rfl, hs2⟩
          simp only [] at hs2
          obtain ⟨p5, cp5, rfl⟩ := row_form hs2.tl.at
          unfold mkA
          simp only []
          refine hK.out _ _ (⟨(hs2.li (bxM b6 (mkA (.slice pm m.cols.length cm) m)) (by simp)).2, (hs2.li (bxR b9 #[.int .i64 k, .int .i64 (nn : Nat), .int .i64 lk]) (by simp)).2⟩) (fun hHeld2 => ?_)
          clear hHeld hK
          have hHeld := hHeld2
          clear hHeld2
          (try simp only [Act.put, List.getElem_toArray, List.getElem_cons_zero, List.getElem_cons_succ, List.setIfInBounds_toArray, List.set_cons_zero, List.set_cons_succ])
          refine wpAnyH_take (i := 7) (v := (.tuple #[.agg #[.slice p5 c5.length cp5, .int .i64 o5, .int .i64 k5, .bool f5, .int .i64 l5], t5])) rfl (by kernel_rfl) (by kernel_rfl) (by kernel_rfl) (fun _ _ _ h => (by obtain ⟨h, _⟩ := h; cases h)) (Or.inl ⟨by rfl, by (intro w hSw; (try dsimp only at hSw); go_simp)⟩) hHeld ?_
          (try simp only [Act.put, List.getElem_toArray, List.getElem_cons_zero, List.getElem_cons_succ, List.setIfInBounds_toArray, List.set_cons_zero, List.set_cons_succ])
          refine wpAnyH_take (i := 8) (v := (.agg #[.slice p5 c5.length cp5, .int .i64 o5, .int .i64 k5, .bool f5, .int .i64 l5])) rfl (by kernel_rfl) (by kernel_rfl) (by kernel_rfl) (fun _ _ _ h => (by obtain ⟨h, _⟩ := h; cases h)) (Or.inl ⟨by rfl, by (intro w hSw; (try dsimp only at hSw); go_simp)⟩) hHeld ?_
          (try simp only [Act.put, List.getElem_toArray, List.getElem_cons_zero, List.getElem_cons_succ, List.setIfInBounds_toArray, List.set_cons_zero, List.set_cons_succ])
          refine wpAnyH_take (i := 9) (v := t5) rfl (by kernel_rfl) (by kernel_rfl) (by kernel_rfl) (fun _ _ _ h => (by obtain ⟨h, _⟩ := h; cases h)) (Or.inl ⟨by rfl, by (intro w hSw; (try dsimp only at hSw); go_simp)⟩) hHeld ?_
          (try simp only [Act.put, List.getElem_toArray, List.getElem_cons_zero, List.getElem_cons_succ, List.setIfInBounds_toArray, List.set_cons_zero, List.set_cons_succ])
          refine wpAnyH_ready (rs := [10]) (by kernel_rfl) (by simp) ?_
          refine AllReadyH.cons rfl (fun K hK => ?_) (AllReadyH.nil)
          rw [if_pos (by rfl)]
          go_wp2_with fail
          refine at_K (fun v => Sep B w v (bxM w2.heap.size zA :: rT t5 tk5 :: rI (.slice p5 c5.length cp5) c5 :: bxR b9 #[.int .i64 k, .int .i64 (nn : Nat), .int .i64 lk] :: (bxL b7 #[.slice p1 lst.length c1, .slice p2 x.marks.length c2, .slice p3 x.counts.length c3, .slice p4 x.toks.length c4] :: bxM b6 (mkA (.slice pm m.cols.length cm) m) :: bxL b4 zL :: rR (.slice p1 lst.length c1) lst :: rM (.slice p2 x.marks.length c2) vs x.marks :: rI (.slice p3 x.counts.length c3) x.counts :: rT (.slice p4 x.toks.length c4) x.toks :: (colsI vs x.marks ++ XX)))) (hs2.alloc _) fun w3 hs3 => ?_
          refine hK.out _ _ (⟨(hs3.li (bxM b6 (mkA (.slice pm m.cols.length cm) m)) (by simp)).2, (hs3.li (bxR b9 #[.int .i64 k, .int .i64 (nn : Nat), .int .i64 lk]) (by simp)).2⟩) (fun hHeld2 => ?_)
          clear hHeld hK
          have hHeld := hHeld2
          clear hHeld2
          (try simp only [Act.put, List.getElem_toArray, List.getElem_cons_zero, List.getElem_cons_succ, List.setIfInBounds_toArray, List.set_cons_zero, List.set_cons_succ])
          refine wpAnyH_ready (rs := [11]) (by kernel_rfl) (by simp) ?_
          refine AllReadyH.cons rfl (fun K hK => ?_) (AllReadyH.nil)
          rw [if_pos (by rfl)]
          refine wp_store_row 36 (.tmp 10) (.tmp 44) rfl w2.heap.size #[.slice p5 c5.length cp5, .int .i64 o5, .int .i64 k5, .bool f5, .int .i64 l5] rfl rfl 36 _ hs3.at.2 info24 rfl (by simp [Value.oneCell']) ?_
          have hfin := hs3.putRow #[.slice p5 c5.length cp5, .int .i64 o5, .int .i64 k5, .bool f5, .int .i64 l5]
          refine hK.out _ _ ⟨(hfin.li (bxM b6 (mkA (.slice pm m.cols.length cm) m)) (by simp)).2, (hfin.li (bxR b9 #[.int .i64 k, .int .i64 (nn : Nat), .int .i64 lk]) (by simp)).2⟩ (fun hHeld2 => ?_)
          clear hHeld hK
          have hHeld := hHeld2
          clear hHeld2
          (try simp only [Act.put, List.getElem_toArray, List.getElem_cons_zero, List.getElem_cons_succ, List.setIfInBounds_toArray, List.set_cons_zero, List.set_cons_succ])
          refine wpAnyH_take (i := 12) (v := t5) rfl (by kernel_rfl) (by kernel_rfl) (by kernel_rfl) (fun _ _ _ h => (by obtain ⟨h, _⟩ := h; cases h)) (Or.inl ⟨by rfl, by (intro w hSw; (try dsimp only at hSw); go_simp)⟩) hHeld ?_
          (try simp only [Act.put, List.getElem_toArray, List.getElem_cons_zero, List.getElem_cons_succ, List.setIfInBounds_toArray, List.set_cons_zero, List.set_cons_succ])
          refine wpAnyH_done (by kernel_rfl) ?_ _
          exact ⟨rfl, p5, cp5, t5, _, rfl, hfin⟩
        · rw [if_pos (by rfl)]
          go_wp2_with fail
          refine at_K (fun v => Sep B w v (bxM y.heap.size zA :: bxR b9 #[.int .i64 k, .int .i64 (nn : Nat), .int .i64 lk] :: (bxL b7 #[.slice p1 lst.length c1, .slice p2 x.marks.length c2, .slice p3 x.counts.length c3, .slice p4 x.toks.length c4] :: bxM b6 (mkA (.slice pm m.cols.length cm) m) :: bxL b4 zL :: rR (.slice p1 lst.length c1) lst :: rM (.slice p2 x.marks.length c2) vs x.marks :: rI (.slice p3 x.counts.length c3) x.counts :: rT (.slice p4 x.toks.length c4) x.toks :: (colsI vs x.marks ++ XX)))) (SY.out.alloc _) fun w1 hs1 => ?_
          refine hK.out _ _ (⟨(hs1.li (bxM b6 (mkA (.slice pm m.cols.length cm) m)) (by simp)).2, (hs1.li (bxR b9 #[.int .i64 k, .int .i64 (nn : Nat), .int .i64 lk]) (by simp)).2⟩) (fun hHeld2 => ?_)
          clear hHeld hK
          have hHeld := hHeld2
          clear hHeld2
          (try simp only [Act.put, List.getElem_toArray, List.getElem_cons_zero, List.getElem_cons_succ, List.setIfInBounds_toArray, List.set_cons_zero, List.set_cons_succ])
          refine wpAnyH_ready (rs := [6]) (by kernel_rfl) (by simp) ?_
          refine AllReadyH.cons rfl (fun K hK => ?_) (AllReadyH.nil)
          rw [if_pos (by rfl)]
          go_wp2_with fail
          refine (HST.out _ _ (List.mem_cons_of_mem _ HINY.out) hs1).mono ?_
          rintro _ w2 ⟨v5, t5, rfl, hs2⟩
          simp only [] at hs2
          obtain ⟨p5, cp5, rfl⟩ := row_form hs2.tl.at
          unfold mkA
          simp only []
          refine hK.out _ _ (⟨(hs2.li (bxM b6 (mkA (.slice pm m.cols.length cm) m)) (by simp)).2, (hs2.li (bxR b9 #[.int .i64 k, .int .i64 (nn : Nat), .int .i64 lk]) (by simp)).2⟩) (fun hHeld2 => ?_)
          clear hHeld hK
          have hHeld := hHeld2
          clear hHeld2
          (try simp only [Act.put, List.getElem_toArray, List.getElem_cons_zero, List.getElem_cons_succ, List.setIfInBounds_toArray, List.set_cons_zero, List.set_cons_succ])
          refine wpAnyH_take (i := 7) (v := (.tuple #[.agg #[.slice p5 c5.length cp5, .int .i64 o5, .int .i64 k5, .bool f5, .int .i64 l5], t5])) rfl (by kernel_rfl) (by kernel_rfl) (by kernel_rfl) (fun _ _ _ h => (by obtain ⟨h, _⟩ := h; cases h)) (Or.inl ⟨by rfl, by (intro w hSw; (try dsimp only at hSw); go_simp)⟩) hHeld ?_
          (try simp only [Act.put, List.getElem_toArray, List.getElem_cons_zero, List.getElem_cons_succ, List.setIfInBounds_toArray, List.set_cons_zero, List.set_cons_succ])
          refine wpAnyH_take (i := 8) (v := (.agg #[.slice p5 c5.length cp5, .int .i64 o5, .int .i64 k5, .bool f5, .int .i64 l5])) rfl (by kernel_rfl) (by kernel_rfl) (by kernel_rfl) (fun _ _ _ h => (by obtain ⟨h, _⟩ := h; cases h)) (Or.inl ⟨by rfl, by (intro w hSw; (try dsimp only at hSw); go_simp)⟩) hHeld ?_
          (try simp only [Act.put, List.getElem_toArray, List.getElem_cons_zero, List.getElem_cons_succ, List.setIfInBounds_toArray, List.set_cons_zero, List.set_cons_succ])
          refine wpAnyH_take (i := 9) (v := t5) rfl (by kernel_rfl) (by kernel_rfl) (by kernel_rfl) (fun _ _ _ h => (by obtain ⟨h, _⟩ := h; cases h)) (Or.inl ⟨by rfl, by (intro w hSw; (try dsimp only at hSw); go_simp)⟩) hHeld ?_
          (try simp only [Act.put, List.getElem_toArray, List.getElem_cons_zero, List.getElem_cons_succ, List.setIfInBounds_toArray, List.set_cons_zero, List.set_cons_succ])
          have hs3 := hs2.to 2 (by simp)
          simp only [List.eraseIdx] at hs3
          change Sep B w w2 (bxM y.heap.size zA :: rT t5 tk5 :: rI (.slice p5 c5.length cp5) c5 :: bxR b9 #[.int .i64 k, .int .i64 (nn : Nat), .int .i64 lk] :: (bxL b7 #[.slice p1 lst.length c1, .slice p2 x.marks.length c2, .slice p3 x.counts.length c3, .slice p4 x.toks.length c4] :: bxM b6 (mkA (.slice pm m.cols.length cm) m) :: bxL b4 zL :: rR (.slice p1 lst.length c1) lst :: rM (.slice p2 x.marks.length c2) vs x.marks :: rI (.slice p3 x.counts.length c3) x.counts :: rT (.slice p4 x.toks.length c4) x.toks :: (colsI vs x.marks ++ XX))) at hs3
          refine wpAnyH_ready (rs := [11]) (by kernel_rfl) (by simp) ?_
          refine AllReadyH.cons rfl (fun K hK => ?_) (AllReadyH.nil)
          rw [if_pos (by rfl)]
          refine wp_store_row 36 (.tmp 10) (.tmp 44) rfl y.heap.size #[.slice p5 c5.length cp5, .int .i64 o5, .int .i64 k5, .bool f5, .int .i64 l5] rfl rfl 36 _ hs3.at.2 info24 rfl (by simp [Value.oneCell']) ?_
          have hfin := hs3.putRow #[.slice p5 c5.length cp5, .int .i64 o5, .int .i64 k5, .bool f5, .int .i64 l5]
          refine hK.out _ _ ⟨(hfin.li (bxM b6 (mkA (.slice pm m.cols.length cm) m)) (by simp)).2, (hfin.li (bxR b9 #[.int .i64 k, .int .i64 (nn : Nat), .int .i64 lk]) (by simp)).2⟩ (fun hHeld2 => ?_)
          clear hHeld hK
          have hHeld := hHeld2
          clear hHeld2
          (try simp only [Act.put, List.getElem_toArray, List.getElem_cons_zero, List.getElem_cons_succ, List.setIfInBounds_toArray, List.set_cons_zero, List.set_cons_succ])
          refine wpAnyH_take (i := 12) (v := t5) rfl (by kernel_rfl) (by kernel_rfl) (by kernel_rfl) (fun _ _ _ h => (by obtain ⟨h, _⟩ := h; cases h)) (Or.inl ⟨by rfl, by (intro w hSw; (try dsimp only at hSw); go_simp)⟩) hHeld ?_
          (try simp only [Act.put, List.getElem_toArray, List.getElem_cons_zero, List.getElem_cons_succ, List.setIfInBounds_toArray, List.set_cons_zero, List.set_cons_succ])
          refine wpAnyH_done (by kernel_rfl) ?_ _
          exact ⟨rfl, p5, cp5, t5, _, rfl, hfin⟩
      case next =>
        rintro e a z ⟨rfl, p5, cp5, t5, b10, rfl, hs⟩
        clear H6 H9 SY HINY HST hex
        have S11 : Hid (Sep B w z (rT (.slice p4 x.toks.length c4) x.toks :: bxL b7 #[.slice p1 lst.length c1, .slice p2 x.marks.length c2, .slice p3 x.counts.length c3, .slice p4 x.toks.length c4] :: bxM b10 #[.slice p5 c5.length cp5, .int .i64 o5, .int .i64 k5, .bool f5, .int .i64 l5] :: rT t5 tk5 :: rI (.slice p5 c5.length cp5) c5 :: bxR b9 #[.int .i64 k, .int .i64 (nn : Nat), .int .i64 lk] :: bxM b6 (mkA (.slice pm m.cols.length cm) m) :: bxL b4 zL :: rR (.slice p1 lst.length c1) lst :: rM (.slice p2 x.marks.length c2) vs x.marks :: rI (.slice p3 x.counts.length c3) x.counts :: (colsI vs x.marks ++ XX))) := Lib.hid (((((((((((hs.to 9 (by simp)).to 9 (by simp)).to 9 (by simp)).to 9 (by simp)).to 9 (by simp)).to 8 (by simp)).to 8 (by simp)).to 8 (by simp)).to 8 (by simp)).to 9 (by simp)).to 10 (by simp))
        have HT5 : Hid (z.ownsRow B 40 3 t5 tk5.length (tkL tk5)) := Lib.hid (hs.li (rT t5 tk5) (by simp))
        have v3 : z.cell? ⟨b7, 3, none⟩ = some (.slice p4 x.toks.length c4) := S11.out.tl.boxAt 3
        clear hs
        have htl : x.toks.length + tk5.length ≤ 5000 * (j + 1) := by have := HLEN.out; have := HM0.out.1.len; have := HLN.out.2.2.1; omega
        have htm : x.toks.length + tk5.length ≤ 1000000000000 := by omega
        go_upto_region 11 with fail
        go_wp2_with (at_builtin; refine wp_appTT (B := B) (w0 := w) (l := x.toks) (news := tk5) _ t5 rfl (.tmp 47) (.tmp 48) rfl rfl rfl S11.out HT5.out htm ?_)
        intro v7 w7 hs7
        obtain ⟨p7, c7, rfl⟩ := row_form hs7.at
        have S12 := Lib.hid hs7
        clear hs7 S11 HT5 v3
        obtain ⟨T2, hT2⟩ : ∃ T2, x.toks ++ tk5 = T2 := ⟨_, rfl⟩
        rw [hT2] at S12 ⊢
        have HT2 := Lib.hid hT2
        clear hT2
        have v3 : w7.cell? ⟨b7, 3, none⟩ = some (.slice p4 x.toks.length c4) := S12.out.tl.boxAt 3
        have vf3 : w7.frozen? ⟨b7, 3, none⟩ = false := S12.out.tl.fz 3
        go_upto_region 12 with fail
        refine at_world (fun y => Sep B w y (rT (.slice p7 T2.length c7) T2 :: bxL b7 #[.slice p1 lst.length c1, .slice p2 x.marks.length c2, .slice p3 x.counts.length c3, .slice p7 T2.length c7] :: bxM b10 #[.slice p5 c5.length cp5, .int .i64 o5, .int .i64 k5, .bool f5, .int .i64 l5] :: rT t5 tk5 :: rI (.slice p5 c5.length cp5) c5 :: bxR b9 #[.int .i64 k, .int .i64 (nn : Nat), .int .i64 lk] :: bxM b6 (mkA (.slice pm m.cols.length cm) m) :: bxL b4 zL :: rR (.slice p1 lst.length c1) lst :: rM (.slice p2 x.marks.length c2) vs x.marks :: rI (.slice p3 x.counts.length c3) x.counts :: (colsI vs x.marks ++ XX))) (S12.out.setAt [_] 3 (.slice p7 T2.length c7)) fun y2 hy2 => ?_
        have S13 : Hid (Sep B w y2 (rM (.slice p2 x.marks.length c2) vs x.marks :: bxL b7 #[.slice p1 lst.length c1, .slice p2 x.marks.length c2, .slice p3 x.counts.length c3, .slice p7 T2.length c7] :: bxM b10 #[.slice p5 c5.length cp5, .int .i64 o5, .int .i64 k5, .bool f5, .int .i64 l5] :: rT (.slice p7 T2.length c7) T2 :: rT t5 tk5 :: rI (.slice p5 c5.length cp5) c5 :: bxR b9 #[.int .i64 k, .int .i64 (nn : Nat), .int .i64 lk] :: bxM b6 (mkA (.slice pm m.cols.length cm) m) :: bxL b4 zL :: rR (.slice p1 lst.length c1) lst :: rI (.slice p3 x.counts.length c3) x.counts :: (colsI vs x.marks ++ XX))) := Lib.hid (((((((((((hy2.to 10 (by simp)).to 9 (by simp)).to 9 (by simp)).to 9 (by simp)).to 9 (by simp)).to 9 (by simp)).to 9 (by simp)).to 7 (by simp)).to 9 (by simp)).to 9 (by simp)).to 10 (by simp))
        clear hy2 S12 v3 vf3
        obtain ⟨b12, hb12⟩ : ∃ b, y2.heap.size = b := ⟨_, rfl⟩
        have S14 := Lib.hid ((S13.out.allocAt hb12 (.cells #[.slice p5 c5.length cp5, .int .i64 o5, .int .i64 k5, .bool f5, .int .i64 l5] 36)).to 1 (by simp))
        simp only [List.getElem_cons_succ, List.getElem_cons_zero, List.eraseIdx] at S14
        have v1 : y2.cell? ⟨b7, 1, none⟩ = some (.slice p2 x.marks.length c2) := S13.out.tl.boxAt 1
        have n0 : y2.cell? ⟨b10, 0, none⟩ = some (.slice p5 c5.length cp5) := S13.out.tl.tl.boxAt 0
        have n1 : y2.cell? ⟨b10, 1, none⟩ = some (.int .i64 o5) := S13.out.tl.tl.boxAt 1
        have n2 : y2.cell? ⟨b10, 2, none⟩ = some (.int .i64 k5) := S13.out.tl.tl.boxAt 2
        have n3 : y2.cell? ⟨b10, 3, none⟩ = some (.bool f5) := S13.out.tl.tl.boxAt 3
        have n4 : y2.cell? ⟨b10, 4, none⟩ = some (.int .i64 l5) := S13.out.tl.tl.boxAt 4
        clear S13
        have HVM : Hid (vs.length = x.marks.length) := Lib.hid (by rw [HLN.out.2.2.2, HLN.out.1])
        have HML : Hid (x.marks.length ≤ 1000000000) := Lib.hid (by rw [HLN.out.1]; omega)
        go_upto_region 12 with fail
        have HB12 := Lib.hid (fun j => S14.out.tl.boxAt (b := b12) j)
        go_wp2_with (at_builtin; refine wp_appM (B := B) (w0 := w) (vs := vs) (ms := x.marks) _ HVM.out rfl (.tmp 52) (.tmp 54) rfl rfl S14.out b12 p5 c5.length cp5 ⟨c5, o5, k5, f5, l5⟩ rfl HB12.out HML.out ?_)
        intro v8 w8 hs8
        obtain ⟨p8, c8, rfl⟩ := row_form hs8.at
        have S15 := Lib.hid (hs8.sub (List.Sublist.cons_cons _ (.cons _ (.refl _))))
        obtain ⟨M2, hM2⟩ : ∃ M2, x.marks ++ [(⟨c5, o5, k5, f5, l5⟩ : Mk)] = M2 := ⟨_, rfl⟩
        obtain ⟨vs2, hvs2⟩ : ∃ z, vs ++ [.slice p5 c5.length cp5] = z := ⟨_, rfl⟩
        rw [hM2, hvs2] at S15
        rw [hM2]
        have HM2 := Lib.hid hM2
        have HVS2 := Lib.hid hvs2
        clear hM2 hvs2
        clear hs8 S14 v1 n0 n1 n2 n3 n4 HB12 hb12
        have v1 : w8.cell? ⟨b7, 1, none⟩ = some (.slice p2 x.marks.length c2) := S15.out.tl.boxAt 1
        have vf1 : w8.frozen? ⟨b7, 1, none⟩ = false := S15.out.tl.fz 1
        go_upto_region 13 with fail
        refine at_world (fun y => Sep B w y (rM (.slice p8 M2.length c8) vs2 M2 :: bxL b7 #[.slice p1 lst.length c1, .slice p8 M2.length c8, .slice p3 x.counts.length c3, .slice p7 T2.length c7] :: bxM b10 #[.slice p5 c5.length cp5, .int .i64 o5, .int .i64 k5, .bool f5, .int .i64 l5] :: rT (.slice p7 T2.length c7) T2 :: rT t5 tk5 :: rI (.slice p5 c5.length cp5) c5 :: bxR b9 #[.int .i64 k, .int .i64 (nn : Nat), .int .i64 lk] :: bxM b6 (mkA (.slice pm m.cols.length cm) m) :: bxL b4 zL :: rR (.slice p1 lst.length c1) lst :: rI (.slice p3 x.counts.length c3) x.counts :: (colsI vs x.marks ++ XX))) (S15.out.setAt [_] 1 (.slice p8 M2.length c8)) fun y3 hy3 => ?_
        have S16 : Hid (Sep B w y3 (rI (.slice p3 x.counts.length c3) x.counts :: bxL b7 #[.slice p1 lst.length c1, .slice p8 M2.length c8, .slice p3 x.counts.length c3, .slice p7 T2.length c7] :: bxM b10 #[.slice p5 c5.length cp5, .int .i64 o5, .int .i64 k5, .bool f5, .int .i64 l5] :: rM (.slice p8 M2.length c8) vs2 M2 :: rT (.slice p7 T2.length c7) T2 :: rT t5 tk5 :: rI (.slice p5 c5.length cp5) c5 :: bxR b9 #[.int .i64 k, .int .i64 (nn : Nat), .int .i64 lk] :: bxM b6 (mkA (.slice pm m.cols.length cm) m) :: bxL b4 zL :: rR (.slice p1 lst.length c1) lst :: (colsI vs x.marks ++ XX))) := Lib.hid (((((((((((hy3.to 9 (by simp)).to 9 (by simp)).to 9 (by simp)).to 9 (by simp)).to 9 (by simp)).to 9 (by simp)).to 9 (by simp)).to 7 (by simp)).to 9 (by simp)).to 9 (by simp)).to 10 (by simp))
        clear hy3 S15 v1 vf1
        obtain ⟨b13, hb13⟩ : ∃ b, y3.heap.size = b := ⟨_, rfl⟩
        have S17 := Lib.hid (S16.out.allocAt hb13 (.cells #[.int .i64 (T2.length : Nat)] 3))
        have v2 : y3.cell? ⟨b7, 2, none⟩ = some (.slice p3 x.counts.length c3) := S16.out.tl.boxAt 2
        have v3 : y3.cell? ⟨b7, 3, none⟩ = some (.slice p7 T2.length c7) := S16.out.tl.boxAt 3
        clear S16
        have HCL : Hid (x.counts.length + [(T2.length : Int)].length ≤ 1000000000000) := Lib.hid (by rw [HLN.out.2.1]; simp only [List.length_singleton]; omega)
        go_upto_region 13 with fail
        go_wp2_with (at_builtin; refine wp_appI (B := B) (w0 := w) (l := x.counts) _ rfl (.tmp 58) (.tmp 62) rfl rfl S17.out.swap ⟨b13, 0, none⟩ 1 [(T2.length : Int)] rfl (news1 S17.out) HCL.out ?_)
        intro v9 w9 hs9
        obtain ⟨p9, c9, rfl⟩ := row_form hs9.at
        have S18 := Lib.hid hs9.swap.tl
        obtain ⟨C2, hC2⟩ : ∃ C2, x.counts ++ [(T2.length : Int)] = C2 := ⟨_, rfl⟩
        rw [hC2] at S18 ⊢
        have HC2 := Lib.hid hC2
        clear hC2 hs9 S17 v2 v3 HCL hb13
        have v2 : w9.cell? ⟨b7, 2, none⟩ = some (.slice p3 x.counts.length c3) := S18.out.tl.boxAt 2
        have vf2 : w9.frozen? ⟨b7, 2, none⟩ = false := S18.out.tl.fz 2
        go_upto_region 14 with fail
        refine at_world (fun y => Sep B w y (rI (.slice p9 C2.length c9) C2 :: bxL b7 #[.slice p1 lst.length c1, .slice p8 M2.length c8, .slice p9 C2.length c9, .slice p7 T2.length c7] :: bxM b10 #[.slice p5 c5.length cp5, .int .i64 o5, .int .i64 k5, .bool f5, .int .i64 l5] :: rM (.slice p8 M2.length c8) vs2 M2 :: rT (.slice p7 T2.length c7) T2 :: rT t5 tk5 :: rI (.slice p5 c5.length cp5) c5 :: bxR b9 #[.int .i64 k, .int .i64 (nn : Nat), .int .i64 lk] :: bxM b6 (mkA (.slice pm m.cols.length cm) m) :: bxL b4 zL :: rR (.slice p1 lst.length c1) lst :: (colsI vs x.marks ++ XX))) (S18.out.setAt [_] 2 (.slice p9 C2.length c9)) fun y4 hy4 => ?_
        have S19 : Hid (Sep B w y4 (rT t5 tk5 :: bxM b6 (mkA (.slice pm m.cols.length cm) m) :: bxM b10 #[.slice p5 c5.length cp5, .int .i64 o5, .int .i64 k5, .bool f5, .int .i64 l5] :: bxR b9 #[.int .i64 k, .int .i64 (nn : Nat), .int .i64 lk] :: bxL b7 #[.slice p1 lst.length c1, .slice p8 M2.length c8, .slice p9 C2.length c9, .slice p7 T2.length c7] :: bxL b4 zL :: rR (.slice p1 lst.length c1) lst :: rM (.slice p8 M2.length c8) vs2 M2 :: rI (.slice p9 C2.length c9) C2 :: rT (.slice p7 T2.length c7) T2 :: rI (.slice p5 c5.length cp5) c5 :: (colsI vs x.marks ++ XX))) := Lib.hid ((((((((((((hy4.to 6 (by simp)).to 5 (by simp)).to 2 (by simp)).to 5 (by simp)).to 10 (by simp)).to 10 (by simp)).to 6 (by simp)).to 9 (by simp)).to 8 (by simp)).to 10 (by simp)).to 10 (by simp)))
        clear hy4 S18 v2 vf2
        have S20 := Lib.hid (S19.out.tl.drew)
        have S21 := Lib.hid (S20.out.putRow #[.slice p5 c5.length cp5, .int .i64 o5, .int .i64 k5, .bool f5, .int .i64 l5])
        have HAT6 := Lib.hid S20.out.at.2
        have HNN := Lib.hid (And.intro S20.out.tl.at.2 S20.out.tl.tl.at.2)
        have HNN2 := Lib.hid (And.intro S21.out.tl.at.2 S21.out.tl.tl.at.2)
        clear S19 S20
        refine wp_region_held_drew (S := fun v => v.heap[b10]? = some (.cells #[.slice p5 c5.length cp5, .int .i64 o5, .int .i64 k5, .bool f5, .int .i64 l5] 36 (0, 0)) ∧ v.heap[b9]? = some (.cells #[.int .i64 k, .int .i64 (nn : Nat), .int .i64 lk] 38 (0, 0))) (by kernel_rfl) HNN.out (fun hHeld => ?_)
        refine wpAnyH_take (i := 0) (v := (.agg #[.slice p5 c5.length cp5, .int .i64 o5, .int .i64 k5, .bool f5, .int .i64 l5])) rfl (by kernel_rfl) (by kernel_rfl) (by kernel_rfl) (fun _ _ _ h => h) (Or.inl ⟨by rfl, by (intro w hSw; have q0 : w.cell? ⟨b10, 0, none⟩ = some (.slice p5 c5.length cp5) := cell_of_row w b10 0 _ 36 (0, 0) hSw.1; have q1 : w.cell? ⟨b10, 1, none⟩ = some (.int .i64 o5) := cell_of_row w b10 1 _ 36 (0, 0) hSw.1; have q2 : w.cell? ⟨b10, 2, none⟩ = some (.int .i64 k5) := cell_of_row w b10 2 _ 36 (0, 0) hSw.1; have q3 : w.cell? ⟨b10, 3, none⟩ = some (.bool f5) := cell_of_row w b10 3 _ 36 (0, 0) hSw.1; have q4 : w.cell? ⟨b10, 4, none⟩ = some (.int .i64 l5) := cell_of_row w b10 4 _ 36 (0, 0) hSw.1; go_simp)⟩) hHeld ?_
        (try simp only [Act.put, List.getElem_toArray, List.getElem_cons_zero, List.getElem_cons_succ, List.setIfInBounds_toArray, List.set_cons_zero, List.set_cons_succ])
        refine wpAnyH_take (i := 1) (v := (.string s')) rfl (by kernel_rfl) (by kernel_rfl) (by kernel_rfl) (fun _ _ _ h => h) (Or.inl ⟨by rfl, by (intro w hSw; (try dsimp only at hSw); go_simp)⟩) hHeld ?_
        (try simp only [Act.put, List.getElem_toArray, List.getElem_cons_zero, List.getElem_cons_succ, List.setIfInBounds_toArray, List.set_cons_zero, List.set_cons_succ])
        refine wpAnyH_take (i := 2) (v := (.pointer (some ⟨b9, 1, none⟩))) rfl (by kernel_rfl) (by kernel_rfl) (by kernel_rfl) (fun _ _ _ h => h) (Or.inl ⟨by rfl, by (intro w hSw; (try dsimp only at hSw); go_simp)⟩) hHeld ?_
        (try simp only [Act.put, List.getElem_toArray, List.getElem_cons_zero, List.getElem_cons_succ, List.setIfInBounds_toArray, List.set_cons_zero, List.set_cons_succ])
        refine wpAnyH_take (i := 3) (v := (.int .i64 (nn : Nat))) rfl (by kernel_rfl) (by kernel_rfl) (by kernel_rfl) (fun _ _ _ h => h) (Or.inl ⟨by rfl, by (intro w hSw; have q1 : w.cell? ⟨b9, 1, none⟩ = some (.int .i64 (nn : Nat)) := cell_of_row w b9 1 _ 38 (0, 0) hSw.2; go_simp)⟩) hHeld ?_
        (try simp only [Act.put, List.getElem_toArray, List.getElem_cons_zero, List.getElem_cons_succ, List.setIfInBounds_toArray, List.set_cons_zero, List.set_cons_succ])
        refine wpAnyH_take (i := 4) (v := (.string (s'.extract nn s'.size))) rfl (by kernel_rfl) (by kernel_rfl) (by kernel_rfl) (fun _ _ _ h => h) (Or.inl ⟨by rfl, by (intro w hSw; (try dsimp only at hSw); go_simp)⟩) hHeld ?_
        (try simp only [Act.put, List.getElem_toArray, List.getElem_cons_zero, List.getElem_cons_succ, List.setIfInBounds_toArray, List.set_cons_zero, List.set_cons_succ])
        refine wpAnyH_ready (rs := [5]) (by kernel_rfl) (by simp) ?_
        refine AllReadyH.cons rfl (fun K hK => ?_) (AllReadyH.nil)
        rw [if_pos (by rfl)]
        refine wp_store_row 36 (.tmp 6) (.tmp 65) rfl b6 #[.slice p5 c5.length cp5, .int .i64 o5, .int .i64 k5, .bool f5, .int .i64 l5] rfl rfl 36 _ HAT6.out info24 rfl (by simp [Value.oneCell']) ?_
        refine hK.out _ _ HNN2.out (fun hHeld2 => ?_)
        clear hHeld hK
        have hHeld := hHeld2
        clear hHeld2
        (try simp only [Act.put, List.getElem_toArray, List.getElem_cons_zero, List.getElem_cons_succ, List.setIfInBounds_toArray, List.set_cons_zero, List.set_cons_succ])
        refine wpAnyH_take (i := 6) (v := (.string (s'.extract nn s'.size))) rfl (by kernel_rfl) (by kernel_rfl) (by kernel_rfl) (fun _ _ _ h => h) (Or.inl ⟨by rfl, by (intro w hSw; (try dsimp only at hSw); go_simp)⟩) hHeld ?_
        (try simp only [Act.put, List.getElem_toArray, List.getElem_cons_zero, List.getElem_cons_succ, List.setIfInBounds_toArray, List.set_cons_zero, List.set_cons_succ])
        refine wpAnyH_done (by kernel_rfl) ?_ _
        have hex2 : (s'.extract nn s'.size).size = s'.size - nn := by simp
        have HEX2 := Lib.hid hex2
        have HRR2 : Hid (runF ⟨M2, C2, T2⟩ ⟨c5, o5, k5, f5, l5⟩ (bl (s'.extract nn s'.size)) (lst.drop (j + 1)) = RR) := Lib.hid (by
          have h := HRR.out
          unfold runF at h
          simp only [Int.toNat_natCast] at h
          rw [← bl_take s' nn, HSTE.out, ← bl_drop s' nn] at h
          simp only [] at h
          rw [HM2.out, HT2.out, HC2.out] at h
          exact h)
        have HLD3 : Hid (areP (((s'.extract nn s'.size).size : Nat) : Int) (lst.drop (j + 1)) = true) := Lib.hid (by
          rw [HEX2.out, show (((s'.size - nn : Nat)) : Int) = (s'.size : Int) - (nn : Int) by omega]; exact HLD2.out)
        have HM5 : Hid (May ⟨c5, o5, k5, f5, l5⟩ ∧ (⟨c5, o5, k5, f5, l5⟩ : Mk).lead + (((s'.extract nn s'.size).size : Nat) : Int) ≤ 65536) := Lib.hid ⟨HMAY5.out, by rw [HEX2.out]; have := HLEAD.out; have := HM0.out.2; simp only []; omega⟩
        have hvm : vs.length = x.marks.length := by rw [HLN.out.2.2.2, HLN.out.1]
        have HIN2 : Hid (rI (.slice p5 c5.length cp5) (⟨c5, o5, k5, f5, l5⟩ : Mk).cols ∈ colsI vs2 M2) := Lib.hid (by
          rw [← HM2.out, ← HVS2.out, colsI_app hvm]; exact List.mem_append_right _ (List.mem_cons_self ..))
        have HLN2 : Hid (M2.length = j + 1 + 1 ∧ C2.length = j + 1 + 1 ∧ T2.length ≤ 5000 * (j + 1) ∧ vs2.length = j + 1 + 1) := Lib.hid (by
          rw [← HM2.out, ← HC2.out, ← HT2.out, ← HVS2.out]
          simp only [List.length_append, List.length_singleton]
          exact ⟨by rw [HLN.out.1], by rw [HLN.out.2.1], htl, by rw [HLN.out.2.2.2]⟩)
        have S22 : Hid (Sep B w (y4.drew.setRow b6 #[.slice p5 c5.length cp5, .int .i64 o5, .int .i64 k5, .bool f5, .int .i64 l5]) (bxL b7 #[.slice p1 lst.length c1, .slice p8 M2.length c8, .slice p9 C2.length c9, .slice p7 T2.length c7] :: bxM b6 (mkA (.slice p5 c5.length cp5) ⟨c5, o5, k5, f5, l5⟩) :: bxL b4 zL :: rR (.slice p1 lst.length c1) lst :: rM (.slice p8 M2.length c8) vs2 M2 :: rI (.slice p9 C2.length c9) C2 :: rT (.slice p7 T2.length c7) T2 :: (colsI vs2 M2 ++ XX))) := Lib.hid (by
          have h := (((((((((((S21.out.to 2 (by simp)).to 2 (by simp)).to 8 (by simp)).to 8 (by simp)).to 8 (by simp)).to 8 (by simp)).to 8 (by simp)).to 7 (by simp)).to 8 (by simp)).to 9 (by simp))).sub (List.Sublist.cons_cons _ (List.Sublist.cons_cons _ (List.Sublist.cons_cons _ (List.Sublist.cons_cons _ (List.Sublist.cons_cons _ (List.Sublist.cons_cons _ (List.Sublist.cons_cons _ (List.Sublist.cons_cons _ (.cons _ (.cons _ (.refl (colsI vs x.marks ++ XX))))))))))))
          have h2 := h.perm (List.perm_middle (l₁ := bxL b7 #[.slice p1 lst.length c1, .slice p8 M2.length c8, .slice p9 C2.length c9, .slice p7 T2.length c7] :: bxM b6 (mkA (.slice p5 c5.length cp5) ⟨c5, o5, k5, f5, l5⟩) :: bxL b4 zL :: rR (.slice p1 lst.length c1) lst :: rM (.slice p8 M2.length c8) vs2 M2 :: rI (.slice p9 C2.length c9) C2 :: rT (.slice p7 T2.length c7) T2 :: colsI vs x.marks) (l₂ := XX)).symm
          rw [show colsI vs2 M2 = colsI vs x.marks ++ [rI (.slice p5 c5.length cp5) c5] by rw [← HM2.out, ← HVS2.out, colsI_app hvm]; rfl, List.append_assoc]
          exact h2)
        clear S21 HRR HLD2 HM0 HIN HLN hvm hex2 HEX2 HAT6 HNN HNN2
        go_wp2_with fail
        go_roundw
        case rel => exact ⟨j + 1, _, ⟨M2, C2, T2⟩, ⟨c5, o5, k5, f5, l5⟩, vs2, _, _, _, _, _, rfl, by go_num, by omega, by simp; omega, HLN2.out.1, HLN2.out.2.1, HLN2.out.2.2.1, HLN2.out.2.2.2, HRR2, HLD3, HM5, HIN2, S22⟩
        case measure => simp [intOf]; omega
    · obtain rfl : j = lst.length := by omega
      have hltI : ¬ (lst.length : Int) < (lst.length : Int) := by omega
      have hRR : RR = (x, m) := by rw [← HRR.out, List.drop_length]; rfl
      subst hRR
      have hEQ : endQ m = endF m := by unfold endQ; rw [if_pos (may_mayB HM0.out.1)]
      have HEN := Lib.hid (fun (z : World) (Y : List It) (hin : rI (.slice pm m.cols.length cm) m.cols ∈ Y) (h : Sep B w z Y) => end_any (m := m) (p := pm) (c := cm) (by have := HM0.out.1.len; omega) (fun b h => h.2.1) (own_iv (h.li _ hin)) h)
      rw [hEQ] at HEN
      unfold mkA at HEN
      have HEPOS : Hid (0 < (endF m).length) := Lib.hid (by unfold endF; simp only [List.length_append, List.length_singleton]; omega)
      have HELN : Hid (x.toks.length + (endF m).length ≤ 1000000000000) := Lib.hid (by
        have h1 := HLN.out.2.2.1
        have h2 := HM0.out.1.len
        have h4 := HM0.out.1.ne
        have h3 : (endF m).length ≤ m.cols.length + 1 := by unfold endF; simp only [List.length_append, List.length_replicate, List.length_singleton]; cases m.fresh <;> simp <;> omega
        omega)
      clear hEQ HRR HLD
      go_upto_region 16 with fail
      have HINY : Hid (rI (.slice pm m.cols.length cm) m.cols ∈ rT (.slice p4 x.toks.length c4) x.toks :: bxL b7 #[.slice p1 lst.length c1, .slice p2 x.marks.length c2, .slice p3 x.counts.length c3, .slice p4 x.toks.length c4] :: (bxM b6 (mkA (.slice pm m.cols.length cm) m) :: bxL b4 zL :: rR (.slice p1 lst.length c1) lst :: rM (.slice p2 x.marks.length c2) vs x.marks :: rI (.slice p3 x.counts.length c3) x.counts :: (colsI vs x.marks ++ XX))) := Lib.hid (List.mem_cons_of_mem _ (List.mem_cons_of_mem _ (List.mem_cons_of_mem _ (List.mem_cons_of_mem _ (List.mem_cons_of_mem _ (List.mem_cons_of_mem _ (List.mem_cons_of_mem _ (List.mem_append_left _ HIN.out))))))))
      have SY : Hid (Sep B w wr.drew (rT (.slice p4 x.toks.length c4) x.toks :: bxL b7 #[.slice p1 lst.length c1, .slice p2 x.marks.length c2, .slice p3 x.counts.length c3, .slice p4 x.toks.length c4] :: bxM b6 (mkA (.slice pm m.cols.length cm) m) :: bxL b4 zL :: rR (.slice p1 lst.length c1) lst :: rM (.slice p2 x.marks.length c2) vs x.marks :: rI (.slice p3 x.counts.length c3) x.counts :: (colsI vs x.marks ++ XX))) := Lib.hid (((((((HS.out.drew.to 5 (by simp)).to 5 (by simp)).to 5 (by simp)).to 5 (by simp)).to 5 (by simp)).to 5 (by simp)).to 6 (by simp))
      clear HS
      refine wp_region_owed2 (fun l act w1 => ∃ X : Nat → Value, act = ⟨(List.toArray (.string s' :: .slice p lst.length c :: undef :: undef :: .pointer (some ⟨b4, 0, none⟩) :: .int .i64 0 :: .pointer (some ⟨b6, 0, none⟩) :: .pointer (some ⟨b7, 0, none⟩) :: undef :: u9 :: u10 :: u11 :: .bool false :: .string s :: .int .i64 (s.size : Nat) :: .bool false :: undef :: .bool false :: .string s :: .slice p lst.length c :: .bool true :: .bool false :: undef :: .agg #[.slice p0 1 c0, .int .i64 0, .int .i64 0, .bool true, .int .i64 0] :: .slice p lst.length c :: x1 :: .agg #[.slice p0 1 c0, .int .i64 0, .int .i64 0, .bool true, .int .i64 0] :: x3 :: x4 :: x5 :: .slice p lst.length c :: .int .i64 (lst.length : Nat) :: .int .i64 (lst.length : Nat) :: .bool false :: u34 :: u35 :: u36 :: u37 :: u38 :: u39 :: u40 :: u41 :: u42 :: u43 :: u44 :: u45 :: u46 :: u47 :: u48 :: u49 :: u50 :: u51 :: u52 :: u53 :: u54 :: u55 :: u56 :: u57 :: u58 :: u59 :: u60 :: u61 :: u62 :: u63 :: u64 :: u65 :: u66 :: u67 :: u68 :: u69 :: u70 :: X 0 :: X 1 :: X 2 :: X 3 :: X 4 :: X 5 :: undef :: [])), []⟩ ∧ (∀ i, l i = true → ([0, 1, 2, 5] : List Nat).contains i = true → X i = (fun z1 => ([(.pointer (some ⟨b7, 3, none⟩)), (.slice p4 x.toks.length c4), (.agg #[.slice pm m.cols.length cm, .int .i64 m.opn, .int .i64 m.col, .bool m.fresh, .int .i64 m.lead]), undef, undef, (.pointer (some ⟨b7, 3, none⟩)), undef] : List Value).getD z1 undef) i) ∧ S16 B w b7 (.slice p1 lst.length c1) (.slice p2 x.marks.length c2) (.slice p3 x.counts.length c3) (.slice p4 x.toks.length c4) x.toks (endF m) (bxM b6 (mkA (.slice pm m.cols.length cm) m) :: bxL b4 zL :: rR (.slice p1 lst.length c1) lst :: rM (.slice p2 x.marks.length c2) vs x.marks :: rI (.slice p3 x.counts.length c3) x.counts :: (colsI vs x.marks ++ XX)) (l 3) (l 4) (l 6) (X 3) (X 4) w1) (by kernel_rfl) (by kernel_rfl) ⟨(fun i => ([undef, undef, undef, undef, undef, undef, undef] : List Value).getD i undef), rfl, (fun i h => by cases h), (S16.start SY.out)⟩ ?ste ?fine
      case ste =>
        go_light
        refine Owed.next (n := 0) (o := ?oe0) ?hoe0 ?he0 ?hse0
        case hoe0 => rfl
        case he0 =>
          intro l act w1 hw hl hI K hK
          obtain ⟨hc, X, rfl, hX, hT⟩ := hI
          have HX := Lib.hid (packsM 0 hX [] (fun _ h => nomatch h))
          clear hX
          rw [if_pos (by rfl)]
          go_wp2_with fail
          exact hK.out _ _ ⟨hc.next hw, fun z0 => bif (0 :: []).contains z0 then (fun z1 => ([(.pointer (some ⟨b7, 3, none⟩)), (.slice p4 x.toks.length c4), (.agg #[.slice pm m.cols.length cm, .int .i64 m.opn, .int .i64 m.col, .bool m.fresh, .int .i64 m.lead]), undef, undef, (.pointer (some ⟨b7, 3, none⟩)), undef] : List Value).getD z1 undef) z0 else X z0, rfl, HX.out, hT⟩
        refine Owed.next (n := 1) (o := ?oe1) ?hoe1 ?he1 ?hse1
        case hoe1 => rfl
        case he1 =>
          intro l act w1 hw hl hI K hK
          obtain ⟨hc, X, rfl, hX, hT⟩ := hI
          have h0 : X 0 = (.pointer (some ⟨b7, 3, none⟩)) := hX 0 (hw 0 (by kernel_rfl)) (by kernel_rfl)
          have HX := Lib.hid (packsM 1 hX [0] (List.forall_mem_cons.2 ⟨hw 0 (by kernel_rfl), (fun _ h => nomatch h)⟩))
          clear hX
          have g4 : l 4 = false := hc.not 4 1 hl (by kernel_rfl)
          have g6 : l 6 = false := hc.not 6 4 g4 (by kernel_rfl)
          have kk : w1.cell? ⟨b7, 3, none⟩ = some (.slice p4 x.toks.length c4) := cell_of_row w1 b7 3 _ 28 (0, 0) (hT.box g6)
          rw [h0]
          clear h0
          rw [if_pos (by rfl)]
          go_wp2_with fail
          exact hK.out _ _ ⟨hc.next hw, fun z0 => bif (1 :: [0]).contains z0 then (fun z1 => ([(.pointer (some ⟨b7, 3, none⟩)), (.slice p4 x.toks.length c4), (.agg #[.slice pm m.cols.length cm, .int .i64 m.opn, .int .i64 m.col, .bool m.fresh, .int .i64 m.lead]), undef, undef, (.pointer (some ⟨b7, 3, none⟩)), undef] : List Value).getD z1 undef) z0 else X z0, rfl, HX.out, hT⟩
        refine Owed.next (n := 2) (o := ?oe2) ?hoe2 ?he2 ?hse2
        case hoe2 => rfl
        case he2 =>
          intro l act w1 hw hl hI K hK
          obtain ⟨hc, X, rfl, hX, hT⟩ := hI
          have HX := Lib.hid (packsM 2 hX [] (fun _ h => nomatch h))
          clear hX
          have hb9 : w1.heap[b6]? = some (.cells (mkA (.slice pm m.cols.length cm) m) 36 (0, 0)) := hT.sub.at.2
          have dd0 : w1.cell? ⟨b6, 0, none⟩ = some (.slice pm m.cols.length cm) := cell_of_row w1 b6 0 _ 36 (0, 0) hb9
          have dd1 : w1.cell? ⟨b6, 1, none⟩ = some (.int .i64 m.opn) := cell_of_row w1 b6 1 _ 36 (0, 0) hb9
          have dd2 : w1.cell? ⟨b6, 2, none⟩ = some (.int .i64 m.col) := cell_of_row w1 b6 2 _ 36 (0, 0) hb9
          have dd3 : w1.cell? ⟨b6, 3, none⟩ = some (.bool m.fresh) := cell_of_row w1 b6 3 _ 36 (0, 0) hb9
          have dd4 : w1.cell? ⟨b6, 4, none⟩ = some (.int .i64 m.lead) := cell_of_row w1 b6 4 _ 36 (0, 0) hb9
          clear hb9
          rw [if_pos (by rfl)]
          go_wp2_with fail
          exact hK.out _ _ ⟨hc.next hw, fun z0 => bif (2 :: []).contains z0 then (fun z1 => ([(.pointer (some ⟨b7, 3, none⟩)), (.slice p4 x.toks.length c4), (.agg #[.slice pm m.cols.length cm, .int .i64 m.opn, .int .i64 m.col, .bool m.fresh, .int .i64 m.lead]), undef, undef, (.pointer (some ⟨b7, 3, none⟩)), undef] : List Value).getD z1 undef) z0 else X z0, rfl, HX.out, hT⟩
        refine Owed.next (n := 3) (o := ?oe3) ?hoe3 ?he3 ?hse3
        case hoe3 => rfl
        case he3 =>
          intro l act w1 hw hl hI K hK
          obtain ⟨hc, X, rfl, hX, hT⟩ := hI
          have h2 : X 2 = (.agg #[.slice pm m.cols.length cm, .int .i64 m.opn, .int .i64 m.col, .bool m.fresh, .int .i64 m.lead]) := hX 2 (hw 2 (by kernel_rfl)) (by kernel_rfl)
          have HX := fun v => Lib.hid (packsN 3 v hX (by kernel_rfl) [2] (List.forall_mem_cons.2 ⟨hw 2 (by kernel_rfl), (fun _ h => nomatch h)⟩))
          clear hX
          have g4 : l 4 = false := hc.not 4 3 hl (by kernel_rfl)
          have g6 : l 6 = false := hc.not 6 4 g4 (by kernel_rfl)
          have hT0 := hT
          rw [hl, g4, g6] at hT0
          have HCE := Lib.hid (HEN.out w1 _ HINY.out hT0.all)
          clear hT0
          rw [h2]
          clear h2
          rw [if_pos (by rfl)]
          go_simp
          go_at_call 29
          refine HCE.out.mono ?_
          rintro _ w5 ⟨t2, rfl, hs2⟩
          exact hK.out _ _ ⟨hc.next hw, fun z0 => bif [3].contains z0 then t2 else bif ([2] : List Nat).contains z0 then (fun z1 => ([(.pointer (some ⟨b7, 3, none⟩)), (.slice p4 x.toks.length c4), (.agg #[.slice pm m.cols.length cm, .int .i64 m.opn, .int .i64 m.col, .bool m.fresh, .int .i64 m.lead]), undef, undef, (.pointer (some ⟨b7, 3, none⟩)), undef] : List Value).getD z1 undef) z0 else X z0, rfl, (HX _).out, S16.o3 hs2 g4 g6⟩
        refine Owed.next (n := 4) (o := ?oe4) ?hoe4 ?he4 ?hse4
        case hoe4 => rfl
        case he4 =>
          intro l act w1 hw hl hI K hK
          obtain ⟨hc, X, rfl, hX, hT⟩ := hI
          have h1 : X 1 = (.slice p4 x.toks.length c4) := hX 1 (hw 1 (by kernel_rfl)) (by kernel_rfl)
          have HX := fun v => Lib.hid (packsN 4 v hX (by kernel_rfl) [1] (List.forall_mem_cons.2 ⟨hw 1 (by kernel_rfl), (fun _ h => nomatch h)⟩))
          clear hX
          have k3 : l 3 = true := hw 3 (by kernel_rfl)
          have g6 : l 6 = false := hc.not 6 4 hl (by kernel_rfl)
          rw [h1]
          clear h1
          rw [if_pos (by rfl)]
          refine wpK_appT (B := B) (w0 := w) (l := x.toks) (news := endF m) _ (X 3) (.tmp 72) (.tmp 74) rfl rfl rfl (hT.at4 k3 hl g6) (hT.at4 k3 hl g6).tl.at HEPOS.out HELN.out ?_
          intro v5 w5 hs5
          exact hK.out _ _ ⟨hc.next hw, fun z0 => bif [4].contains z0 then v5 else bif ([1] : List Nat).contains z0 then (fun z1 => ([(.pointer (some ⟨b7, 3, none⟩)), (.slice p4 x.toks.length c4), (.agg #[.slice pm m.cols.length cm, .int .i64 m.opn, .int .i64 m.col, .bool m.fresh, .int .i64 m.lead]), undef, undef, (.pointer (some ⟨b7, 3, none⟩)), undef] : List Value).getD z1 undef) z0 else X z0, rfl, (HX _).out, S16.o4 hs5 k3 g6⟩
        refine Owed.next (n := 5) (o := ?oe5) ?hoe5 ?he5 ?hse5
        case hoe5 => rfl
        case he5 =>
          intro l act w1 hw hl hI K hK
          obtain ⟨hc, X, rfl, hX, hT⟩ := hI
          have HX := Lib.hid (packsM 5 hX [] (fun _ h => nomatch h))
          clear hX
          rw [if_pos (by rfl)]
          go_wp2_with fail
          exact hK.out _ _ ⟨hc.next hw, fun z0 => bif (5 :: []).contains z0 then (fun z1 => ([(.pointer (some ⟨b7, 3, none⟩)), (.slice p4 x.toks.length c4), (.agg #[.slice pm m.cols.length cm, .int .i64 m.opn, .int .i64 m.col, .bool m.fresh, .int .i64 m.lead]), undef, undef, (.pointer (some ⟨b7, 3, none⟩)), undef] : List Value).getD z1 undef) z0 else X z0, rfl, HX.out, hT⟩
        refine Owed.next (n := 6) (o := ?oe6) ?hoe6 ?he6 ?hse6
        case hoe6 => rfl
        case he6 =>
          intro l act w1 hw hl hI K hK
          obtain ⟨hc, X, rfl, hX, hT⟩ := hI
          have h5 : X 5 = (.pointer (some ⟨b7, 3, none⟩)) := hX 5 (hw 5 (by kernel_rfl)) (by kernel_rfl)
          have HX := fun v => Lib.hid (packsN 6 v hX (by kernel_rfl) [5] (List.forall_mem_cons.2 ⟨hw 5 (by kernel_rfl), (fun _ h => nomatch h)⟩))
          clear hX
          have k4 : l 4 = true := hw 4 (by kernel_rfl)
          have k3 : l 3 = true := hc 4 k4 3 (by kernel_rfl)
          obtain ⟨pT, nT, cT, eT, kc, kf, hN⟩ := hT.at6 k3 k4 hl
          rw [h5]
          clear h5
          rw [if_pos (by rfl)]
          rw [eT]
          go_wp2_with fail
          rw [← eT]
          exact hK.out _ _ ⟨hc.next hw, fun z0 => bif [6].contains z0 then undef else bif ([5] : List Nat).contains z0 then (fun z1 => ([(.pointer (some ⟨b7, 3, none⟩)), (.slice p4 x.toks.length c4), (.agg #[.slice pm m.cols.length cm, .int .i64 m.opn, .int .i64 m.col, .bool m.fresh, .int .i64 m.lead]), undef, undef, (.pointer (some ⟨b7, 3, none⟩)), undef] : List Value).getD z1 undef) z0 else X z0, rfl, (HX _).out, hN⟩
        exact Owed.last rfl
      case fine =>
        intro l act w1 hl hI
        obtain ⟨X, rfl, hX, hT⟩ := hI
        have h0 : X 0 = (.pointer (some ⟨b7, 3, none⟩)) := hX 0 (hl 0 (by kernel_rfl)) (by kernel_rfl)
        have h1 : X 1 = (.slice p4 x.toks.length c4) := hX 1 (hl 1 (by kernel_rfl)) (by kernel_rfl)
        have h2 : X 2 = (.agg #[.slice pm m.cols.length cm, .int .i64 m.opn, .int .i64 m.col, .bool m.fresh, .int .i64 m.lead]) := hX 2 (hl 2 (by kernel_rfl)) (by kernel_rfl)
        have h5 : X 5 = (.pointer (some ⟨b7, 3, none⟩)) := hX 5 (hl 5 (by kernel_rfl)) (by kernel_rfl)
        rw [h0, h1, h2, h5]
        clear h0 h1 h2 h5 hX
        obtain ⟨pT, cT, hsF⟩ := hT.fin (hl 3 (by kernel_rfl)) (hl 4 (by kernel_rfl)) (hl 6 (by kernel_rfl))
        clear hT SY
        have HVL : Hid (vs.length = x.marks.length) := Lib.hid (by rw [HLN.out.2.2.2, HLN.out.1])
        obtain ⟨T2, hT2⟩ : ∃ T2, x.toks ++ endF m = T2 := ⟨_, rfl⟩
        simp only [] at HRES
        rw [hT2] at hsF HRES
        have SF : Hid (Sep B w w1 (rT (.slice pT T2.length cT) T2 :: bxL b7 #[.slice p1 lst.length c1, .slice p2 x.marks.length c2, .slice p3 x.counts.length c3, .slice pT T2.length cT] :: bxM b6 (mkA (.slice pm m.cols.length cm) m) :: bxL b4 zL :: rR (.slice p1 lst.length c1) lst :: rM (.slice p2 x.marks.length c2) vs x.marks :: rI (.slice p3 x.counts.length c3) x.counts :: (colsI vs x.marks ++ XX))) := Lib.hid hsF
        clear hsF hT2
        have g0 : w1.cell? ⟨b7, 0, none⟩ = some (.slice p1 lst.length c1) := SF.out.tl.boxAt 0
        have g1 : w1.cell? ⟨b7, 1, none⟩ = some (.slice p2 x.marks.length c2) := SF.out.tl.boxAt 1
        have g2 : w1.cell? ⟨b7, 2, none⟩ = some (.slice p3 x.counts.length c3) := SF.out.tl.boxAt 2
        have g3 : w1.cell? ⟨b7, 3, none⟩ = some (.slice pT T2.length cT) := SF.out.tl.boxAt 3
        have z0 : w1.cell? ⟨b4, 0, none⟩ = some (.slice none 0 0) := SF.out.tl.tl.tl.boxAt 0
        have z1 : w1.cell? ⟨b4, 1, none⟩ = some (.slice none 0 0) := SF.out.tl.tl.tl.boxAt 1
        have z2 : w1.cell? ⟨b4, 2, none⟩ = some (.slice none 0 0) := SF.out.tl.tl.tl.boxAt 2
        have z3 : w1.cell? ⟨b4, 3, none⟩ = some (.slice none 0 0) := SF.out.tl.tl.tl.boxAt 3
        have zf0 : w1.frozen? ⟨b4, 0, none⟩ = false := SF.out.tl.tl.tl.fz 0
        have zf1 : w1.frozen? ⟨b4, 1, none⟩ = false := SF.out.tl.tl.tl.fz 1
        have zf2 : w1.frozen? ⟨b4, 2, none⟩ = false := SF.out.tl.tl.tl.fz 2
        have zf3 : w1.frozen? ⟨b4, 3, none⟩ = false := SF.out.tl.tl.tl.fz 3
        have SZ := Lib.hid (((((SF.out.setAt [_, _, _] 0 (.slice p1 lst.length c1)).setAt [_, _, _] 1 (.slice p2 x.marks.length c2)).setAt [_, _, _] 2 (.slice p3 x.counts.length c3)).setAt [_, _, _] 3 (.slice pT T2.length cT)))
        clear SF
        go_wp2_with fail
        have e := HRES.out
        subst e
        refine bodyPost_ret (results_lt rfl _ _ b4 _ rfl SZ.out.tl.tl.tl.at.2 rfl) rfl ?_
        refine ⟨_, _, _, _, vs, rfl, HVL.out, ?_⟩
        have h := SZ.out
        have h2 := ((((((((SZ.out.to 3 (by simp)).to 3 (by simp)).to 3 (by simp)).to 3 (by simp)).to 6 (by simp)).to 6 (by simp)).to 6 (by simp)))
        have h3 := h2.sub (List.Sublist.cons_cons _ (List.Sublist.cons_cons _ (List.Sublist.cons_cons _ (List.Sublist.cons_cons _ (.cons _ (.cons _ (.cons _ (.refl (colsI vs x.marks ++ XX)))))))))
        exact HW0.out _ (_ :: _ :: _ :: _ :: colsI vs x.marks) h3
end Go.Proofs.Ytemkppjdfjoipaa.I1
