/- Package nfa. -/
import Derived.Test.YtnhfeakndofokaaProg
import Derived.Test.YtnhfeakndofokaaN38a
import Derived.WalkKit
import Derived.WalkLawsBesides
import Derived.WalkSpells
import Derived.Outline
import Derived.Lib.Walk
import Derived.Lib.Hide
import Derived.Lib.Slices
import Derived.Lib.Strings
import Derived.RegionTactic
import Derived.LoopTactic
import Derived.Below
import Derived.IntWalk
import Derived.Deep.QuietTactic
import Derived.BigQuiet
import Derived.Deep.MidRow
import Derived.Maps.AppendAt
import Derived.Laws.Rows
import Derived.Laws.Tables
import Derived.Deep.WholeRow
import Derived.Deep.Cut
import Derived.Deep.CutRange
import Derived.Lib.SliceRun
import Derived.Laws.MakeOwn
import Derived.Deep.RegionLaw
import Derived.Deep.RegionLawGrows
import Derived.Deep.RegionHeld3
import Derived.RegionCalls
import Derived.Deep.RegionWith
import Derived.Deep.Light
namespace Go.Proofs.Ytnhfeakndofokaa
set_option linter.unusedSimpArgs false
set_option linter.unusedVariables false
set_option maxRecDepth 100000
open Go.RowKit
/- NfaBegins: the walk up to the new automaton. -/
set_option maxHeartbeats 16000000 in
theorem begins_any {D : Nat → Prop} {w : World} {st : Int} {ss : List Nst} {q : Option Addr} {c : Nat} {s : ByteArray} (hD : ∀ b, D b → b < w.heap.size) (hSV : SV D w ss (.slice q ss.length c)) (hfl : ∀ s ∈ ss, s.fr.length ≤ 9223372036854775806) (hln : ss.length ≤ 9223372036854775806) (hok : ∀ s ∈ ss, okW s.u) (hs : s.size ≤ 9223372036854775806) :
    Calls Try.prog 7 #[nV st q ss.length c, .string s] w fun e w' => e = .returned (.bool true) ∧ Below w.heap.size w w' := by
  have S0 := Lib.hid ((Below.refl w.heap.size w).alloc (Nat.le_refl _) (.cells #[.int .i64 st, .slice q ss.length c] 24))
  by_cases hlong : 60 < s.size
  · have hI : (60 : Int) < (s.size : Int) := by omega
    unfold nV
    clear hSV hfl hln hD hok
    go_enter Try.func7, Try.ntmps7
    go_wp2_with fail
    go_ret
    exact ⟨rfl, S0.out⟩
  have hI : ¬ (60 : Int) < (s.size : Int) := by omega
  have HBIG := Lib.hid fun z (hb : Below w.heap.size w z) => big_any (w := z) (st := st) 300 (by omega) (fun b h => Nat.lt_of_lt_of_le (hD b h) hb.size) (hSV.mono (fun b h => h) (fun b h _ => hb.block b (hD b h))) hfl hln
  have HERR := Lib.hid fun z (hb : Below w.heap.size w z) (hch : chkN st ss ≠ 0) => acc_err (w := z) (st := st) (s := s) (fun b h => Nat.lt_of_lt_of_le (hD b h) hb.size) (hSV.mono (fun b h => h) (fun b h _ => hb.block b (hD b h))) hfl hln hch
  unfold nV at HBIG HERR ⊢
  by_cases hbig : bigN 300 ss = true
  · rw [hbig] at HBIG
    clear hSV hfl hln hD HERR hbig hok
    go_enter Try.func7, Try.ntmps7
    go_wp2_with fail
    refine (HBIG.out _ S0.out).mono ?_
    rintro _ w1 ⟨rfl, hb1⟩
    have S1 := Lib.hid (S0.out.trans (hb1.mono S0.out.size))
    clear hb1 HBIG S0
    go_wp2_with fail
    go_ret
    exact ⟨rfl, S1.out⟩
  have hbig' : bigN 300 ss = false := by simpa using hbig
  have hno := bigN_no hbig'
  rw [hbig'] at HBIG
  by_cases hch : chkN st ss = 0
  · have HOK1 := Lib.hid fun z (hb : Below w.heap.size w z) => acc_ok (w := z) (st := st) (s := s) (fun b h => Nat.lt_of_lt_of_le (hD b h) hb.size) (hSV.mono (fun b h => h) (fun b h _ => hb.block b (hD b h))) hfl (by omega) hok hs hch
    unfold nV at HOK1
    have HSV := Lib.hid hSV
    have HD := Lib.hid hD
    have HOKW := Lib.hid hok
    have HNO := Lib.hid hno
    have HCH := Lib.hid hch
    clear hSV hfl hln hD HERR hbig hbig' hno hok hch
    go_enter Try.func7, Try.ntmps7
    go_wp2_with fail
    refine (HBIG.out _ S0.out).mono ?_
    rintro _ w1 ⟨rfl, hb1⟩
    have S1 := Lib.hid (S0.out.trans (hb1.mono S0.out.size))
    have k0 : w1.cell? ⟨w.heap.size, 0, none⟩ = some (.int .i64 st) := (hb1.cell (p := ⟨w.heap.size, 0, none⟩) (by simp)).trans (cell_of_row _ _ 0 _ 24 (0, 0) (heap_alloc_last w _))
    have k1 : w1.cell? ⟨w.heap.size, 1, none⟩ = some (.slice q ss.length c) := (hb1.cell (p := ⟨w.heap.size, 1, none⟩) (by simp)).trans (cell_of_row _ _ 1 _ 24 (0, 0) (heap_alloc_last w _))
    have hz1 : w.heap.size < w1.heap.size := Nat.lt_of_lt_of_le (by simp) hb1.size
    clear hb1 HBIG S0
    go_wp2_with fail
    refine (HOK1.out _ S1.out).mono ?_
    rintro _ w2 ⟨⟨vl, rfl, hvl⟩, hb2⟩
    have S2 := Lib.hid (S1.out.trans (hb2.mono S1.out.size))
    have HVL := Lib.hid (hvl.mono (E := fun b => b < w2.heap.size) (fun b h => h.2) (fun b _ _ => rfl))
    have k0 : w2.cell? ⟨w.heap.size, 0, none⟩ = some (.int .i64 st) := (hb2.cell (p := ⟨w.heap.size, 0, none⟩) hz1).trans k0
    have k1 : w2.cell? ⟨w.heap.size, 1, none⟩ = some (.slice q ss.length c) := (hb2.cell (p := ⟨w.heap.size, 1, none⟩) hz1).trans k1
    have hz2 : w.heap.size < w2.heap.size := Nat.lt_of_lt_of_le hz1 hb2.size
    clear hb2 HOK1 S1 hvl hz1
    go_wp2_with fail
    have hch := HCH.out
    have hne : ss ≠ [] := by
      intro e; subst e
      have h0 := chk_ok HCH.out
      have := (mayN_fine h0.1).2
      simp at this
      omega
    have hsv2 : SV (fun b => b < w2.heap.size) w2 ss (.slice q ss.length c) := HSV.out.mono (fun b h => Nat.lt_of_lt_of_le (HD.out b h) S2.out.size) (fun b h _ => S2.out.block b (HD.out b h))
    obtain ⟨bb, o, rfl, hbbw, zs, hzs, hziv, hnews0⟩ := sv_zs hsv2 hne
    obtain ⟨xs, hxs⟩ : ∃ xs, flat (zs.map zC) = xs := ⟨_, rfl⟩
    have HXL : Hid (xs.length = ss.length * 7) := Lib.hid (by rw [← hxs, flatz_len, ← hzs]; simp)
    have HONE : Hid (∀ u ∈ xs, u.oneCell' = true) := Lib.hid (by rw [← hxs]; exact flatz_one zs)
    rw [hxs] at hnews0
    have HNEWS := Lib.hid hnews0
    have HZS := Lib.hid hzs
    have HZIV := Lib.hid hziv
    have HXS := Lib.hid hxs
    obtain ⟨i0, hi, hz0, hz1, hz2'⟩ := info_parts info49b
    have hzr := zero24
    clear hnews0 hzs hziv hxs hsv2 hne hch
    refine wp_region_owed2 (fun l act w1 => ∃ X : Nat → Value, act = ⟨(List.toArray ((Value.agg #[Value.int IntKind.i64 st, Value.slice (some ⟨bb, o, none⟩) ss.length c]) :: (Value.string s) :: (Value.pointer (some { block := w.heap.size, off := 0 })) :: (undef) :: (Value.bool false) :: (vl) :: (Value.int IntKind.i64 0) :: X 14 :: (undef) :: (undef) :: (Value.string s) :: (Value.int IntKind.i64 ↑s.size) :: (Value.bool false) :: (Value.bool false) :: (Value.agg #[Value.int IntKind.i64 st, Value.slice (some ⟨bb, o, none⟩) ss.length c]) :: (Value.bool false) :: (Value.bool false) :: (Value.tuple #[vl, Value.int IntKind.i64 0]) :: (Value.agg #[Value.int IntKind.i64 st, Value.slice (some ⟨bb, o, none⟩) ss.length c]) :: (Value.string s) :: (Value.tuple #[vl, Value.int IntKind.i64 0]) :: (vl) :: (Value.int IntKind.i64 0) :: (Value.int IntKind.i64 0) :: (Value.bool false) :: (undef) :: X 0 :: X 1 :: X 2 :: X 3 :: X 4 :: X 5 :: X 6 :: X 7 :: X 8 :: X 9 :: X 10 :: X 11 :: X 12 :: X 13 :: (undef) :: (undef) :: (undef) :: (undef) :: (undef) :: (undef) :: (undef) :: (undef) :: (undef) :: (undef) :: (undef) :: (undef) :: (undef) :: (undef) :: (undef) :: (undef) :: [])), []⟩ ∧ (∀ i, l i = true → ([0, 1, 2, 4, 5, 7, 8] : List Nat).contains i = true → X i = (fun z1 => ([(.pointer (some ⟨w.heap.size, 1, none⟩)), (.slice (some ⟨bb, o, none⟩) ss.length c), (.int .i64 (ss.length : Nat)), undef, (.pointer (some ⟨w.heap.size, 1, none⟩)), (.slice (some ⟨bb, o, none⟩) ss.length c), undef, (.pointer (some ⟨w.heap.size, 0, none⟩)), (.int .i64 st), undef, undef, undef, undef, undef, undef, undef] : List Value).getD z1 undef) i) ∧ FS w2.heap.size w2 st ss.length xs (l 3) (l 6) (l 9) (l 10) (l 11) (l 12) (l 13) (l 14) (l 15) (X 3) (X 6) (X 9) (X 10) (X 11) (X 12) (X 13) (X 14) w1) (by kernel_rfl) (by kernel_rfl) ⟨(fun i => ([(undef), (undef), (undef), (undef), (undef), (undef), (undef), (undef), (undef), (undef), (undef), (undef), (undef), (undef), (undef), undef] : List Value).getD i undef), rfl, (fun i h => by cases h), fs_start (Sep.start w2).drew⟩ ?st ?fin
    case st =>
      go_light
      refine Owed.next (n := 0) (o := ?o0) ?ho0 ?h0 ?hs0
      case ho0 => rfl
      case h0 =>
        intro l act w1 hw hl hI K hK
        obtain ⟨hc, X, rfl, hX, hT⟩ := hI
        have HX := Lib.hid (packsM 0 hX [] (fun _ h => nomatch h))
        clear hX
        rw [if_pos (by rfl)]
        go_wp2_with fail
        exact hK.out _ _ ⟨hc.next hw, fun z0 => bif (0 :: []).contains z0 then (fun z1 => ([(.pointer (some ⟨w.heap.size, 1, none⟩)), (.slice (some ⟨bb, o, none⟩) ss.length c), (.int .i64 (ss.length : Nat)), undef, (.pointer (some ⟨w.heap.size, 1, none⟩)), (.slice (some ⟨bb, o, none⟩) ss.length c), undef, (.pointer (some ⟨w.heap.size, 0, none⟩)), (.int .i64 st), undef, undef, undef, undef, undef, undef, undef] : List Value).getD z1 undef) z0 else X z0, rfl, HX.out, hT⟩
      refine Owed.next (n := 1) (o := ?o1) ?ho1 ?h1 ?hs1
      case ho1 => rfl
      case h1 =>
        intro l act w1 hw hl hI K hK
        obtain ⟨hc, X, rfl, hX, hT⟩ := hI
        have h0 : X 0 = (.pointer (some ⟨w.heap.size, 1, none⟩)) := hX 0 (hw 0 (by kernel_rfl)) (by kernel_rfl)
        have HX := Lib.hid (packsM 1 hX [0] (List.forall_mem_cons.2 ⟨hw 0 (by kernel_rfl), (fun _ h => nomatch h)⟩))
        clear hX
        have kk1 : w1.cell? ⟨w.heap.size, 1, none⟩ = some (.slice (some ⟨bb, o, none⟩) ss.length c) := ((fs_bel hT).1.cell (p := ⟨w.heap.size, 1, none⟩) hz2).trans k1
        rw [h0]
        clear h0
        rw [if_pos (by rfl)]
        go_wp2_with fail
        exact hK.out _ _ ⟨hc.next hw, fun z0 => bif (1 :: [0]).contains z0 then (fun z1 => ([(.pointer (some ⟨w.heap.size, 1, none⟩)), (.slice (some ⟨bb, o, none⟩) ss.length c), (.int .i64 (ss.length : Nat)), undef, (.pointer (some ⟨w.heap.size, 1, none⟩)), (.slice (some ⟨bb, o, none⟩) ss.length c), undef, (.pointer (some ⟨w.heap.size, 0, none⟩)), (.int .i64 st), undef, undef, undef, undef, undef, undef, undef] : List Value).getD z1 undef) z0 else X z0, rfl, HX.out, hT⟩
      refine Owed.next (n := 2) (o := ?o2) ?ho2 ?h2 ?hs2
      case ho2 => rfl
      case h2 =>
        intro l act w1 hw hl hI K hK
        obtain ⟨hc, X, rfl, hX, hT⟩ := hI
        have h1 : X 1 = (.slice (some ⟨bb, o, none⟩) ss.length c) := hX 1 (hw 1 (by kernel_rfl)) (by kernel_rfl)
        have HX := Lib.hid (packsM 2 hX [1] (List.forall_mem_cons.2 ⟨hw 1 (by kernel_rfl), (fun _ h => nomatch h)⟩))
        clear hX
        rw [h1]
        clear h1
        rw [if_pos (by rfl)]
        go_wp2_with fail
        exact hK.out _ _ ⟨hc.next hw, fun z0 => bif (2 :: [1]).contains z0 then (fun z1 => ([(.pointer (some ⟨w.heap.size, 1, none⟩)), (.slice (some ⟨bb, o, none⟩) ss.length c), (.int .i64 (ss.length : Nat)), undef, (.pointer (some ⟨w.heap.size, 1, none⟩)), (.slice (some ⟨bb, o, none⟩) ss.length c), undef, (.pointer (some ⟨w.heap.size, 0, none⟩)), (.int .i64 st), undef, undef, undef, undef, undef, undef, undef] : List Value).getD z1 undef) z0 else X z0, rfl, HX.out, hT⟩
      refine Owed.next (n := 3) (o := ?o3) ?ho3 ?h3 ?hs3
      case ho3 => rfl
      case h3 =>
        intro l act w1 hw hl hI K hK
        obtain ⟨hc, X, rfl, hX, hT⟩ := hI
        have HX := fun v => Lib.hid (packsN 3 v hX (by kernel_rfl) [] (fun _ h => nomatch h))
        clear hX
        rw [if_pos (by rfl)]
        go_wp2_with fail
        exact hK.out _ _ ⟨hc.next hw, fun z0 => bif [3].contains z0 then (.slice (some ⟨w1.heap.size, 0, none⟩) 0 0) else bif ([] : List Nat).contains z0 then (fun z1 => ([(.pointer (some ⟨w.heap.size, 1, none⟩)), (.slice (some ⟨bb, o, none⟩) ss.length c), (.int .i64 (ss.length : Nat)), undef, (.pointer (some ⟨w.heap.size, 1, none⟩)), (.slice (some ⟨bb, o, none⟩) ss.length c), undef, (.pointer (some ⟨w.heap.size, 0, none⟩)), (.int .i64 st), undef, undef, undef, undef, undef, undef, undef] : List Value).getD z1 undef) z0 else X z0, rfl, (HX _).out, fs3 hT⟩
      refine Owed.next (n := 4) (o := ?o4) ?ho4 ?h4 ?hs4
      case ho4 => rfl
      case h4 =>
        intro l act w1 hw hl hI K hK
        obtain ⟨hc, X, rfl, hX, hT⟩ := hI
        have HX := Lib.hid (packsM 4 hX [] (fun _ h => nomatch h))
        clear hX
        rw [if_pos (by rfl)]
        go_wp2_with fail
        exact hK.out _ _ ⟨hc.next hw, fun z0 => bif (4 :: []).contains z0 then (fun z1 => ([(.pointer (some ⟨w.heap.size, 1, none⟩)), (.slice (some ⟨bb, o, none⟩) ss.length c), (.int .i64 (ss.length : Nat)), undef, (.pointer (some ⟨w.heap.size, 1, none⟩)), (.slice (some ⟨bb, o, none⟩) ss.length c), undef, (.pointer (some ⟨w.heap.size, 0, none⟩)), (.int .i64 st), undef, undef, undef, undef, undef, undef, undef] : List Value).getD z1 undef) z0 else X z0, rfl, HX.out, hT⟩
      refine Owed.next (n := 5) (o := ?o5) ?ho5 ?h5 ?hs5
      case ho5 => rfl
      case h5 =>
        intro l act w1 hw hl hI K hK
        obtain ⟨hc, X, rfl, hX, hT⟩ := hI
        have h4 : X 4 = (.pointer (some ⟨w.heap.size, 1, none⟩)) := hX 4 (hw 4 (by kernel_rfl)) (by kernel_rfl)
        have HX := Lib.hid (packsM 5 hX [4] (List.forall_mem_cons.2 ⟨hw 4 (by kernel_rfl), (fun _ h => nomatch h)⟩))
        clear hX
        have kk1 : w1.cell? ⟨w.heap.size, 1, none⟩ = some (.slice (some ⟨bb, o, none⟩) ss.length c) := ((fs_bel hT).1.cell (p := ⟨w.heap.size, 1, none⟩) hz2).trans k1
        rw [h4]
        clear h4
        rw [if_pos (by rfl)]
        go_wp2_with fail
        exact hK.out _ _ ⟨hc.next hw, fun z0 => bif (5 :: [4]).contains z0 then (fun z1 => ([(.pointer (some ⟨w.heap.size, 1, none⟩)), (.slice (some ⟨bb, o, none⟩) ss.length c), (.int .i64 (ss.length : Nat)), undef, (.pointer (some ⟨w.heap.size, 1, none⟩)), (.slice (some ⟨bb, o, none⟩) ss.length c), undef, (.pointer (some ⟨w.heap.size, 0, none⟩)), (.int .i64 st), undef, undef, undef, undef, undef, undef, undef] : List Value).getD z1 undef) z0 else X z0, rfl, HX.out, hT⟩
      refine Owed.next (n := 6) (o := ?o6) ?ho6 ?h6 ?hs6
      case ho6 => rfl
      case h6 =>
        intro l act w1 hw hl hI K hK
        obtain ⟨hc, X, rfl, hX, hT⟩ := hI
        have h5 : X 5 = (.slice (some ⟨bb, o, none⟩) ss.length c) := hX 5 (hw 5 (by kernel_rfl)) (by kernel_rfl)
        have HX := fun v => Lib.hid (packsN 6 v hX (by kernel_rfl) [5] (List.forall_mem_cons.2 ⟨hw 5 (by kernel_rfl), (fun _ h => nomatch h)⟩))
        clear hX
        have h3 : l 3 = true := hw 3 (by kernel_rfl)
        have h12 : l 12 = false := hc.not 12 6 hl (by kernel_rfl)
        have hown := fs_own3 hT h3 hl
        have hnews : ∀ j u, xs[j]? = some u → w1.cell? ((⟨bb, o, none⟩ : Addr).add j) = some u := fun j u hu => ((fs_bel hT).1.cell (p := (⟨bb, o, none⟩ : Addr).add j) (by rw [Addr.add_mid]; exact hbbw)).trans (HNEWS.out j u hu)
        rw [h5]
        clear h5
        refine step_append_own rfl (.tmp 29) (.tmp 31) 22 rfl w2.heap.size 49 i0 _ 7 72 Try.underlying22 hi hz0 hz1 hz2' rfl (by decide) (X 3) 0 [] rfl hown ⟨bb, o, none⟩ ss.length c xs rfl HXL.out hnews HONE.out (by have := HNO.out; unfold maxLen; omega) (by have := HNO.out; omega) (fs_bel hT).2 ?_
        intro v6 w6 hown6 hg6 _ hat6
        exact hK.out _ _ ⟨hc.next hw, fun z0 => bif [6].contains z0 then v6 else bif ([5] : List Nat).contains z0 then (fun z1 => ([(.pointer (some ⟨w.heap.size, 1, none⟩)), (.slice (some ⟨bb, o, none⟩) ss.length c), (.int .i64 (ss.length : Nat)), undef, (.pointer (some ⟨w.heap.size, 1, none⟩)), (.slice (some ⟨bb, o, none⟩) ss.length c), undef, (.pointer (some ⟨w.heap.size, 0, none⟩)), (.int .i64 st), undef, undef, undef, undef, undef, undef, undef] : List Value).getD z1 undef) z0 else X z0, rfl, (HX _).out, fs6 hT h3 hl h12 hown6 hg6 hat6⟩
      refine Owed.next (n := 7) (o := ?o7) ?ho7 ?h7 ?hs7
      case ho7 => rfl
      case h7 =>
        intro l act w1 hw hl hI K hK
        obtain ⟨hc, X, rfl, hX, hT⟩ := hI
        have HX := Lib.hid (packsM 7 hX [] (fun _ h => nomatch h))
        clear hX
        rw [if_pos (by rfl)]
        go_wp2_with fail
        exact hK.out _ _ ⟨hc.next hw, fun z0 => bif (7 :: []).contains z0 then (fun z1 => ([(.pointer (some ⟨w.heap.size, 1, none⟩)), (.slice (some ⟨bb, o, none⟩) ss.length c), (.int .i64 (ss.length : Nat)), undef, (.pointer (some ⟨w.heap.size, 1, none⟩)), (.slice (some ⟨bb, o, none⟩) ss.length c), undef, (.pointer (some ⟨w.heap.size, 0, none⟩)), (.int .i64 st), undef, undef, undef, undef, undef, undef, undef] : List Value).getD z1 undef) z0 else X z0, rfl, HX.out, hT⟩
      refine Owed.next (n := 8) (o := ?o8) ?ho8 ?h8 ?hs8
      case ho8 => rfl
      case h8 =>
        intro l act w1 hw hl hI K hK
        obtain ⟨hc, X, rfl, hX, hT⟩ := hI
        have h7 : X 7 = (.pointer (some ⟨w.heap.size, 0, none⟩)) := hX 7 (hw 7 (by kernel_rfl)) (by kernel_rfl)
        have HX := Lib.hid (packsM 8 hX [7] (List.forall_mem_cons.2 ⟨hw 7 (by kernel_rfl), (fun _ h => nomatch h)⟩))
        clear hX
        have kk0 : w1.cell? ⟨w.heap.size, 0, none⟩ = some (.int .i64 st) := ((fs_bel hT).1.cell (p := ⟨w.heap.size, 0, none⟩) hz2).trans k0
        rw [h7]
        clear h7
        rw [if_pos (by rfl)]
        go_wp2_with fail
        exact hK.out _ _ ⟨hc.next hw, fun z0 => bif (8 :: [7]).contains z0 then (fun z1 => ([(.pointer (some ⟨w.heap.size, 1, none⟩)), (.slice (some ⟨bb, o, none⟩) ss.length c), (.int .i64 (ss.length : Nat)), undef, (.pointer (some ⟨w.heap.size, 1, none⟩)), (.slice (some ⟨bb, o, none⟩) ss.length c), undef, (.pointer (some ⟨w.heap.size, 0, none⟩)), (.int .i64 st), undef, undef, undef, undef, undef, undef, undef] : List Value).getD z1 undef) z0 else X z0, rfl, HX.out, hT⟩
      refine Owed.next (n := 9) (o := ?o9) ?ho9 ?h9 ?hs9
      case ho9 => rfl
      case h9 =>
        intro l act w1 hw hl hI K hK
        obtain ⟨hc, X, rfl, hX, hT⟩ := hI
        have h8 : X 8 = (.int .i64 st) := hX 8 (hw 8 (by kernel_rfl)) (by kernel_rfl)
        have HX := fun v => Lib.hid (packsN 9 v hX (by kernel_rfl) [8] (List.forall_mem_cons.2 ⟨hw 8 (by kernel_rfl), (fun _ h => nomatch h)⟩))
        clear hX
        have h10 : l 10 = false := hc.not 10 9 hl (by kernel_rfl)
        have h11 : l 11 = false := hc.not 11 10 h10 (by kernel_rfl)
        have h12 : l 12 = false := hc.not 12 11 h11 (by kernel_rfl)
        rw [h8]
        clear h8
        rw [if_pos (by rfl)]
        go_wp2_with fail
        exact hK.out _ _ ⟨hc.next hw, fun z0 => bif [9].contains z0 then (.slice (some ⟨w1.heap.size, 0, none⟩) 1 1) else bif ([8] : List Nat).contains z0 then (fun z1 => ([(.pointer (some ⟨w.heap.size, 1, none⟩)), (.slice (some ⟨bb, o, none⟩) ss.length c), (.int .i64 (ss.length : Nat)), undef, (.pointer (some ⟨w.heap.size, 1, none⟩)), (.slice (some ⟨bb, o, none⟩) ss.length c), undef, (.pointer (some ⟨w.heap.size, 0, none⟩)), (.int .i64 st), undef, undef, undef, undef, undef, undef, undef] : List Value).getD z1 undef) z0 else X z0, rfl, (HX _).out, fs9 hT h10 h11 h12⟩
      refine Owed.next (n := 10) (o := ?o10) ?ho10 ?h10 ?hs10
      case ho10 => rfl
      case h10 =>
        intro l act w1 hw hl hI K hK
        obtain ⟨hc, X, rfl, hX, hT⟩ := hI
        have HX := fun v => Lib.hid (packsN 10 v hX (by kernel_rfl) [] (fun _ h => nomatch h))
        clear hX
        have h9 : l 9 = true := hw 9 (by kernel_rfl)
        obtain ⟨b9, e9, hb9, hat9⟩ := fs_at9 hT h9
        have hT9 := Lib.hid hT
        rw [if_pos (by rfl)]
        rw [e9]
        go_wp2_with fail
        rw [← e9]
        exact hK.out _ _ ⟨hc.next hw, fun z0 => bif [10].contains z0 then (.agg (nw (X 9))) else bif ([] : List Nat).contains z0 then (fun z1 => ([(.pointer (some ⟨w.heap.size, 1, none⟩)), (.slice (some ⟨bb, o, none⟩) ss.length c), (.int .i64 (ss.length : Nat)), undef, (.pointer (some ⟨w.heap.size, 1, none⟩)), (.slice (some ⟨bb, o, none⟩) ss.length c), undef, (.pointer (some ⟨w.heap.size, 0, none⟩)), (.int .i64 st), undef, undef, undef, undef, undef, undef, undef] : List Value).getD z1 undef) z0 else X z0, rfl, (HX _).out, fs10 hT⟩
      refine Owed.next (n := 11) (o := ?o11) ?ho11 ?h11 ?hs11
      case ho11 => rfl
      case h11 =>
        intro l act w1 hw hl hI K hK
        obtain ⟨hc, X, rfl, hX, hT⟩ := hI
        have HX := fun v => Lib.hid (packsN 11 v hX (by kernel_rfl) [] (fun _ h => nomatch h))
        clear hX
        have h10 : l 10 = true := hw 10 (by kernel_rfl)
        have h9 : l 9 = true := hc 10 h10 9 (by kernel_rfl)
        obtain ⟨b9, e9, hb9, hat9⟩ := fs_at9 hT h9
        have e10 := fs_at10 hT h10
        rw [if_pos (by rfl)]
        have e10' : X 10 = .agg #[.int .u64 0, .int .u64 0, .int .u64 0, .int .u64 0, .int .i64 (-1), X 9, .int .i64 (-1)] := e10
        rw [e10', e9]
        go_wp2_with fail
        rw [← e9, ← e10']
        exact hK.out _ _ ⟨hc.next hw, fun z0 => bif [11].contains z0 then (.slice (some ⟨w1.heap.size, 0, none⟩) 1 1) else bif ([] : List Nat).contains z0 then (fun z1 => ([(.pointer (some ⟨w.heap.size, 1, none⟩)), (.slice (some ⟨bb, o, none⟩) ss.length c), (.int .i64 (ss.length : Nat)), undef, (.pointer (some ⟨w.heap.size, 1, none⟩)), (.slice (some ⟨bb, o, none⟩) ss.length c), undef, (.pointer (some ⟨w.heap.size, 0, none⟩)), (.int .i64 st), undef, undef, undef, undef, undef, undef, undef] : List Value).getD z1 undef) z0 else X z0, rfl, (HX _).out, fs11 hT⟩
      refine Owed.next (n := 12) (o := ?o12) ?ho12 ?h12 ?hs12
      case ho12 => rfl
      case h12 =>
        intro l act w1 hw hl hI K hK
        obtain ⟨hc, X, rfl, hX, hT⟩ := hI
        have HX := fun v => Lib.hid (packsN 12 v hX (by kernel_rfl) [] (fun _ h => nomatch h))
        clear hX
        have h6 : l 6 = true := hw 6 (by kernel_rfl)
        have h11 : l 11 = true := hw 11 (by kernel_rfl)
        have h13 : l 13 = false := hc.not 13 12 hl (by kernel_rfl)
        have h15 : l 15 = false := hc.not 15 12 hl (by kernel_rfl)
        have hown := fs_own6 hT h6 hl
        obtain ⟨b11, e11, hb11, hat11⟩ := fs_at11 hT h11
        have hnews : ∀ j u, (nw (X 9)).toList[j]? = some u → w1.cell? ((⟨b11, 0, none⟩ : Addr).add j) = some u := fun j u hu => by
          rw [Addr.add_mid, cell_of_row _ b11 (0 + j) _ 49 (0, 0) hat11, Nat.zero_add]
          rw [Array.getElem?_toList] at hu; exact hu
        have h9 : l 9 = true := hc 10 (hc 11 h11 10 (by kernel_rfl)) 9 (by kernel_rfl)
        obtain ⟨b9, e9, hb9, hat9⟩ := fs_at9 hT h9
        have hone : ∀ u ∈ (nw (X 9)).toList, u.oneCell' = true := by
          rw [e9]; intro u hu; simp [nw, stC] at hu; rcases hu with rfl | rfl | rfl | rfl <;> rfl
        refine step_append_own rfl (.tmp 32) (.tmp 37) 22 rfl w2.heap.size 49 i0 _ 7 72 Try.underlying22 hi hz0 hz1 hz2' rfl (by decide) (X 6) ss.length xs rfl hown ⟨b11, 0, none⟩ 1 1 (nw (X 9)).toList e11 rfl hnews hone (by have := HNO.out; unfold maxLen; omega) (by have := HNO.out; omega) (fs_bel hT).2 ?_
        intro v12 w12 hown12 hg12 _ hat12
        exact hK.out _ _ ⟨hc.next hw, fun z0 => bif [12].contains z0 then v12 else bif ([] : List Nat).contains z0 then (fun z1 => ([(.pointer (some ⟨w.heap.size, 1, none⟩)), (.slice (some ⟨bb, o, none⟩) ss.length c), (.int .i64 (ss.length : Nat)), undef, (.pointer (some ⟨w.heap.size, 1, none⟩)), (.slice (some ⟨bb, o, none⟩) ss.length c), undef, (.pointer (some ⟨w.heap.size, 0, none⟩)), (.int .i64 st), undef, undef, undef, undef, undef, undef, undef] : List Value).getD z1 undef) z0 else X z0, rfl, (HX _).out, fs12 hT h6 hl h13 h15 hown12 hg12 hat12⟩
      refine Owed.next (n := 13) (o := ?o13) ?ho13 ?h13 ?hs13
      case ho13 => rfl
      case h13 =>
        intro l act w1 hw hl hI K hK
        obtain ⟨hc, X, rfl, hX, hT⟩ := hI
        have h2 : X 2 = (.int .i64 (ss.length : Nat)) := hX 2 (hw 2 (by kernel_rfl)) (by kernel_rfl)
        have HX := fun v => Lib.hid (packsN 13 v hX (by kernel_rfl) [2] (List.forall_mem_cons.2 ⟨hw 2 (by kernel_rfl), (fun _ h => nomatch h)⟩))
        clear hX
        have h12 : l 12 = true := hw 12 (by kernel_rfl)
        have hown := fs_row12 hT h12
        obtain ⟨p12, n12, c12, e12⟩ := own_form hown
        rw [h2]
        clear h2
        rw [if_pos (by rfl)]
        rw [e12]
        go_wp2_with fail
        rw [← e12]
        exact hK.out _ _ ⟨hc.next hw, fun z0 => bif [13].contains z0 then (.agg #[.int .i64 (ss.length : Nat), X 12]) else bif ([2] : List Nat).contains z0 then (fun z1 => ([(.pointer (some ⟨w.heap.size, 1, none⟩)), (.slice (some ⟨bb, o, none⟩) ss.length c), (.int .i64 (ss.length : Nat)), undef, (.pointer (some ⟨w.heap.size, 1, none⟩)), (.slice (some ⟨bb, o, none⟩) ss.length c), undef, (.pointer (some ⟨w.heap.size, 0, none⟩)), (.int .i64 st), undef, undef, undef, undef, undef, undef, undef] : List Value).getD z1 undef) z0 else X z0, rfl, (HX _).out, fs13 hT⟩
      refine Owed.next (n := 14) (o := ?o14) ?ho14 ?h14 ?hs14
      case ho14 => rfl
      case h14 =>
        intro l act w1 hw hl hI K hK
        obtain ⟨hc, X, rfl, hX, hT⟩ := hI
        have HX := fun v => Lib.hid (packsN 14 v hX (by kernel_rfl) [] (fun _ h => nomatch h))
        clear hX
        have h15 : l 15 = false := hc.not 15 14 hl (by kernel_rfl)
        rw [if_pos (by rfl)]
        go_wp2_with fail
        exact hK.out _ _ ⟨hc.next hw, fun z0 => bif [14].contains z0 then (.pointer (some ⟨w1.heap.size, 0, none⟩)) else bif ([] : List Nat).contains z0 then (fun z1 => ([(.pointer (some ⟨w.heap.size, 1, none⟩)), (.slice (some ⟨bb, o, none⟩) ss.length c), (.int .i64 (ss.length : Nat)), undef, (.pointer (some ⟨w.heap.size, 1, none⟩)), (.slice (some ⟨bb, o, none⟩) ss.length c), undef, (.pointer (some ⟨w.heap.size, 0, none⟩)), (.int .i64 st), undef, undef, undef, undef, undef, undef, undef] : List Value).getD z1 undef) z0 else X z0, rfl, (HX _).out, fs14 hT h15⟩
      refine Owed.next (n := 15) (o := ?o15) ?ho15 ?h15 ?hs15
      case ho15 => rfl
      case h15 =>
        intro l act w1 hw hl hI K hK
        obtain ⟨hc, X, rfl, hX, hT⟩ := hI
        have HX := fun v => Lib.hid (packsN 15 v hX (by kernel_rfl) [] (fun _ h => nomatch h))
        clear hX
        have h14 : l 14 = true := hw 14 (by kernel_rfl)
        have h13 : l 13 = true := hw 13 (by kernel_rfl)
        have h12 : l 12 = true := hw 12 (by kernel_rfl)
        obtain ⟨b14, e14, hb14, hat14⟩ := fs_at14 hT h14 hl
        have e13 := fs_at13 hT h13
        have hown := fs_row12 hT h12
        obtain ⟨p12, n12, c12, e12⟩ := own_form hown
        rw [if_pos (by rfl)]
        refine wp_store_row 24 (.tmp 7) (.tmp 39) rfl b14 #[.int .i64 (ss.length : Nat), X 12] e14 e13 24 _ hat14 size24r rfl (by rw [e12]; simp [Value.oneCell']) ?_
        exact hK.out _ _ ⟨hc.next hw, fun z0 => bif [15].contains z0 then undef else bif ([] : List Nat).contains z0 then (fun z1 => ([(.pointer (some ⟨w.heap.size, 1, none⟩)), (.slice (some ⟨bb, o, none⟩) ss.length c), (.int .i64 (ss.length : Nat)), undef, (.pointer (some ⟨w.heap.size, 1, none⟩)), (.slice (some ⟨bb, o, none⟩) ss.length c), undef, (.pointer (some ⟨w.heap.size, 0, none⟩)), (.int .i64 st), undef, undef, undef, undef, undef, undef, undef] : List Value).getD z1 undef) z0 else X z0, rfl, (HX _).out, fs15 hT h14 hl e14 (row_grown _ _ _) (setRow_heap _ b14 _ _ 24 (0, 0) hat14)⟩
      exact Owed.last rfl
    case fin =>
      intro l act w1 hl hI
      obtain ⟨X, rfl, hX, hT⟩ := hI
      have h0 : X 0 = (.pointer (some ⟨w.heap.size, 1, none⟩)) := hX 0 (hl 0 (by kernel_rfl)) (by kernel_rfl)
      have h1 : X 1 = (.slice (some ⟨bb, o, none⟩) ss.length c) := hX 1 (hl 1 (by kernel_rfl)) (by kernel_rfl)
      have h2 : X 2 = (.int .i64 (ss.length : Nat)) := hX 2 (hl 2 (by kernel_rfl)) (by kernel_rfl)
      have h4 : X 4 = (.pointer (some ⟨w.heap.size, 1, none⟩)) := hX 4 (hl 4 (by kernel_rfl)) (by kernel_rfl)
      have h5 : X 5 = (.slice (some ⟨bb, o, none⟩) ss.length c) := hX 5 (hl 5 (by kernel_rfl)) (by kernel_rfl)
      have h7 : X 7 = (.pointer (some ⟨w.heap.size, 0, none⟩)) := hX 7 (hl 7 (by kernel_rfl)) (by kernel_rfl)
      have h8 : X 8 = (.int .i64 st) := hX 8 (hl 8 (by kernel_rfl)) (by kernel_rfl)
      rw [h0, h1, h2, h4, h5, h7, h8]
      clear h0 h1 h2 h4 h5 h7 h8 hX

      have hF : FS w2.heap.size w2 st ss.length xs true true true true true true true true true (X 3) (X 6) (X 9) (X 10) (X 11) (X 12) (X 13) (X 14) w1 := by
        have e3 := hl 3 (by kernel_rfl); have e6 := hl 6 (by kernel_rfl); have e9 := hl 9 (by kernel_rfl); have e10 := hl 10 (by kernel_rfl); have e11 := hl 11 (by kernel_rfl); have e12 := hl 12 (by kernel_rfl); have e13 := hl 13 (by kernel_rfl); have e14 := hl 14 (by kernel_rfl); have e15 := hl 15 (by kernel_rfl)
        rw [e3, e6, e9, e10, e11, e12, e13, e14, e15] at hT
        exact hT
      obtain ⟨b14, e14, hb14, g, cap, b9, e12, e9, hown, hat9, hat14, hbel⟩ := fs_fin hF
      rw [e14, e12]
      rw [e12] at hat14 hown
      rw [e9, ← HXS.out] at hown
      have hsv := sv_more HZS.out HZIV.out hbel hown hat9
      have j0 : w1.cell? ⟨b14, 0, none⟩ = some (.int .i64 (ss.length : Nat)) := cell_of_row w1 b14 0 _ 24 (0, 0) hat14
      have j1 : w1.cell? ⟨b14, 1, none⟩ = some (.slice (some ⟨g, 0, none⟩) (ss.length + 1) cap) := cell_of_row w1 b14 1 _ 24 (0, 0) hat14
      have hml : (more1 st ss).length = ss.length + 1 := by unfold more1; simp
      have hmf : frees (more1 st ss) = frees ss + 1 := by unfold more1; rw [frees_app]; simp [frees]
      have hc2 := chkN_more (st := st) HCH.out HNO.out
      have hmay := (chk_ok HCH.out).1
      have HAC := acc_ok (w := w1) (st := (ss.length : Nat)) (ss := more1 st ss) (q := some ⟨g, 0, none⟩) (c := cap) (s := s) (fun b h => h) (by rw [hml]; exact hsv) (fun s hs => by have := frees_mem hs; rw [hmf] at this; have := HNO.out; omega) (by rw [hml]; have := HNO.out; omega) (fun s' hs' => by
        unfold more1 at hs'
        rcases List.mem_append.1 hs' with h | h
        · exact HOKW.out s' h
        · simp only [List.mem_singleton] at h
          subst h
          intro k
          simp) hs hc2
      rw [accL_more hmay, hml] at HAC
      unfold nV at HAC
      have HACC := Lib.hid HAC
      have S3 := Lib.hid (S2.out.trans (hbel.mono S2.out.size))
      have HV3 := Lib.hid (HVL.out.mono (E := fun b => b < w1.heap.size) (fun b h => Nat.lt_of_lt_of_le h hbel.size) (fun b h _ => hbel.block b h))
      clear hT hF hown HAC hsv hml hmf hc2 hmay hat14 hat9 hbel hb14 HZS HZIV HXS HXL HONE HNEWS S2 HVL HSV HD HOKW HNO HCH e14 e12 e9
      have hal : (accL hasU st ss s.data.toList).length ≤ 9223372036854775806 := by
        unfold accL rulesOf
        rw [List.length_map]
        refine Nat.le_trans (List.length_filter_le _ _) ?_
        simp
      generalize accL hasU st ss s.data.toList = al at *
      have HAL := Lib.hid hal
      clear hal
      obtain ⟨p1, c1, rfl, -⟩ : ∃ p c, vl = .slice p al.length c ∧ True := by obtain ⟨p, c, h, _⟩ := HV3.out; exact ⟨p, c, h, trivial⟩
      go_wp2_with fail
      refine HACC.out.mono ?_
      rintro _ w7 ⟨⟨vk, rfl, hvk⟩, hb7⟩
      obtain ⟨p2, c2, rfl, -⟩ : ∃ p c, vk = .slice p al.length c ∧ True := by obtain ⟨p, c, h, _⟩ := hvk; exact ⟨p, c, h, trivial⟩
      have S7 := Lib.hid (S3.out.trans (hb7.mono S3.out.size))
      have HSM := Lib.hid fun (hla : al.length ≤ 9223372036854775806) => same_any (w := w7) (a := al) (b := al) (D := fun b => b < w7.heap.size) (E := fun b => b < w7.heap.size) hla (fun b h => h) (fun b h => h) (HV3.out.mono (fun b h => Nat.lt_of_lt_of_le h hb7.size) (fun b h _ => hb7.block b h)) (hvk.mono (fun b h => h.2) (fun b _ _ => rfl))
      clear hb7 hvk HV3 S3 HACC j0 j1
      go_wp2_with fail
      refine (HSM.out HAL.out).mono ?_
      rintro _ w8 ⟨rfl, hb8⟩
      rw [decide_true]
      have S8 := Lib.hid (S7.out.trans (hb8.mono S7.out.size))
      have HA := Lib.hid (alive_any w8)
      clear hb8 HSM S7
      go_wp2_with fail
      refine HA.out.mono ?_
      rintro _ w9 ⟨rfl, hb9⟩
      have S9 := Lib.hid (S8.out.trans (hb9.mono S8.out.size))
      clear hb9 HA S8
      go_wp2
      go_ret
      exact ⟨rfl, S9.out⟩
  · have HE := Lib.hid fun z hb => HERR.out z hb hch
    have hchI : (chkN st ss != 0) = true := by simpa using hch
    generalize chkN st ss = cn at *
    clear hSV hfl hln hD HERR hbig hbig' hno hok hch
    go_enter Try.func7, Try.ntmps7
    go_wp2_with fail
    refine (HBIG.out _ S0.out).mono ?_
    rintro _ w1 ⟨rfl, hb1⟩
    have S1 := Lib.hid (S0.out.trans (hb1.mono S0.out.size))
    have k0 : w1.cell? ⟨w.heap.size, 0, none⟩ = some (.int .i64 st) := (hb1.cell (p := ⟨w.heap.size, 0, none⟩) (by simp)).trans (cell_of_row _ _ 0 _ 24 (0, 0) (heap_alloc_last w _))
    have k1 : w1.cell? ⟨w.heap.size, 1, none⟩ = some (.slice q ss.length c) := (hb1.cell (p := ⟨w.heap.size, 1, none⟩) (by simp)).trans (cell_of_row _ _ 1 _ 24 (0, 0) (heap_alloc_last w _))
    clear hb1 HBIG S0
    go_wp2_with fail
    refine (HE.out _ S1.out).mono ?_
    rintro _ w2 ⟨rfl, hb2⟩
    have S2 := Lib.hid (S1.out.trans (hb2.mono S1.out.size))
    have HA := Lib.hid (alive_any w2)
    clear hb2 HE S1 k0 k1
    go_wp2_with fail
    refine HA.out.mono ?_
    rintro _ w3 ⟨rfl, hb3⟩
    have S3 := Lib.hid (S2.out.trans (hb3.mono S2.out.size))
    clear hb3 HA S2
    go_wp2
    go_ret
    exact ⟨rfl, S3.out⟩
end Go.Proofs.Ytnhfeakndofokaa
