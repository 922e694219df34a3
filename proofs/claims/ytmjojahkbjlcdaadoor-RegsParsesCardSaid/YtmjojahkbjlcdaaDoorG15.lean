/- Package regs: the reader's small steps: what comes next. -/
import Derived.Test.YtmjojahkbjlcdaaDoorProg
import Derived.Test.YtmjojahkbjlcdaaDoorY3
import Derived.Test.YtmjojahkbjlcdaaDoorY4
import Derived.WalkKit
import Derived.WalkLawsBesides
import Derived.WalkSpells
import Derived.Outline
import Derived.Lib.Walk
import Derived.Lib.Hide
import Derived.RegionTactic
import Derived.LoopTactic
import Derived.Below
import Derived.IntWalk
import Derived.Deep.QuietTactic
import Derived.BigQuiet
import Derived.Deep.Light
import Derived.Deep.MidRow
import Derived.Maps.AppendAt
import Derived.Test.YtmjojahkbjlcdaaDoorY15
namespace Go.Proofs.YtmjojahkbjlcdaaDoor
set_option linter.unusedSimpArgs false
set_option linter.unusedVariables false
set_option maxRecDepth 100000
open Go.RowKit


/-- The things of a row, one behind the other. -/
def thgs (ch : List UInt8 → Except (List UInt8) (RT × List UInt8)) : Nat → List RT → List UInt8 → Except (List UInt8) (List RT × List UInt8)
  | 0, _, l => .error l
  | k + 1, ts, l => match l with
    | [] => .ok (ts, [])
    | c :: r => if ([124, 41] : List UInt8).contains c then .ok (ts, c :: r) else match thingF ch (c :: r) with
      | .error q => .error q
      | .ok (t, q) => thgs ch k (ts ++ [t]) q
def rowT (ts : List RT) : RT := match ts with
  | [] => .mk 1 u0 []
  | ts => joinT 3 ts
def rowF (ch : List UInt8 → Except (List UInt8) (RT × List UInt8)) (l : List UInt8) : Except (List UInt8) (RT × List UInt8) :=
  match thgs ch (l.length + 1) [] l with
  | .error q => .error q
  | .ok (ts, q) => .ok (rowT ts, q)
/-- It reads on. -/
def Ons (ch : List UInt8 → Except (List UInt8) (RT × List UInt8)) : Prop := ∀ l t r, ch l = .ok (t, r) → r.length ≤ l.length
theorem reps_le : ∀ (l : List UInt8) (t : RT), (reps t l).2.length ≤ l.length
  | [], t => Nat.le_refl _
  | c :: r, t => by
    rw [reps]
    split
    · have := reps_le r (.mk (5 + Lib.indexByte rps c) u0 [t]); simp only [List.length_cons]; omega
    · exact Nat.le_refl _
theorem sgl_lt {l r : List UInt8} {c : UInt8} (h : sgl l = .ok (c, r)) : r.length < l.length := by
  unfold sgl at h
  split at h
  · cases h
  · cases h
  · split at h
    · cases h; simp; omega
    · split at h
      · cases h; simp; omega
      · cases h
  · split at h
    · cases h
    · cases h; simp
theorem atomF_lt {ch : List UInt8 → Except (List UInt8) (RT × List UInt8)} (hch : Ons ch) {l r : List UInt8} {t : RT} (h : atomF ch l = .ok (t, r)) : r.length < l.length := by
  unfold atomF at h
  by_cases h1 : l.head? = some 40
  · rw [if_pos h1] at h
    cases hc : ch l.tail with
    | error q => rw [hc] at h; cases h
    | ok v =>
      obtain ⟨t', q⟩ := v
      rw [hc] at h
      have h2 := hch _ _ _ hc
      cases q with
      | nil => cases h
      | cons c q' => cases h; simp only [List.length_cons, List.length_tail] at h2 ⊢; omega
  · rw [if_neg h1] at h
    by_cases h2 : l.head? = some 91
    · rw [if_pos h2] at h
      obtain ⟨q, rfl⟩ : ∃ q, l = 91 :: q := by
        cases l with
        | nil => simp at h2
        | cons c q => simp at h2; exact ⟨q, by rw [h2]⟩
      unfold csl at h
      simp only [List.tail_cons] at h
      have hh : (hat q).length ≤ q.length := by unfold hat; split <;> simp
      cases hc : cl ((hat q).length + 1) (hat q) with
      | error e => rw [hc] at h; cases h
      | ok v =>
        obtain ⟨⟨⟩, t'⟩ := v
        rw [hc] at h
        have := cl_len _ hc
        cases h
        simp only [List.length_cons]; omega
    · rw [if_neg h2] at h
      by_cases h3 : l.head? = some 46
      · rw [if_pos h3] at h
        cases h
        cases l with
        | nil => simp at h3
        | cons c q => simp
      · rw [if_neg h3] at h
        cases hc : sgl l with
        | error e => rw [hc] at h; cases h
        | ok v =>
          obtain ⟨b, q⟩ := v
          rw [hc] at h
          cases h
          exact sgl_lt hc
theorem thingF_lt {ch : List UInt8 → Except (List UInt8) (RT × List UInt8)} (hch : Ons ch) {l r : List UInt8} {t : RT} (h : thingF ch l = .ok (t, r)) : r.length < l.length := by
  unfold thingF at h
  cases hc : atomF ch l with
  | error q => rw [hc] at h; cases h
  | ok v =>
    obtain ⟨t', q⟩ := v
    rw [hc] at h
    have h1 := atomF_lt hch hc
    have h2 := reps_le q t'
    have e : reps t' q = (t, r) := by injection h
    rw [e] at h2
    simp only at h2
    omega
theorem infoN : (Tryd.prog.info? 27).map (fun i => (i.zero, i.size, i.bytes)) = some (some (.agg (nodeC 0 u0 (.slice none 0 0))), 6, 64) := by kernel_rfl
theorem Th.slice {base : Nat} {ts : List RT} {sl : Value} {w : World} (h : Th base ts sl w) : ∃ p c, sl = .slice p ts.length c := by
  obtain ⟨xs, h1, h2, h3, h4⟩ := h
  rcases h4.2 with ⟨rfl, h0⟩ | ⟨g, cap, cur, rfl, _⟩
  · exact ⟨none, 0, by rw [h0]⟩
  · exact ⟨_, _, rfl⟩
theorem Gk.grown {rb n : Nat} {s : ByteArray} {w w1 w2 : World} {row : Option Nat} (h : Gk rb s n w w1) (hg : w1.grownBy w2 row) (hr : ∀ g, row = some g → w.heap.size ≤ g ∧ g ≠ rb) : Gk rb s n w w2 :=
  ⟨⟨hg.os.trans h.1.os, hg.tape.trans h.1.tape, hg.output.trans h.1.output, Nat.le_trans h.1.size hg.size, fun j hj hne => (hg.block j (Nat.lt_of_lt_of_le hj h.1.size) (fun e => by have := (hr j e.symm).1; omega)).trans (h.1.block j hj hne)⟩, (hg.block rb h.2.lt (fun e => (hr rb e.symm).2 rfl)).trans h.2⟩
theorem RV.form2 {D : Nat → Prop} {w : World} {t : RT} {v : Value} (h : RV D w t v) : ∃ (k : Int) (u : Nat → Int) (p : Option Addr) (n c : Nat), v = .agg #[.int .i64 k, .int .u64 (u 0), .int .u64 (u 1), .int .u64 (u 2), .int .u64 (u 3), .slice p n c] := h.form
set_option maxHeartbeats 8000000 in
theorem row_walk {rb : Nat} {s : ByteArray} {w : World} (ch : List UInt8 → Except (List UInt8) (RT × List UInt8)) (hs : s.size ≤ 1000) (q0 : List UInt8) (h0 : GA rb s q0 w) (hon : Ons ch)
    (hTH : Hid (∀ q w, q.length ≤ q0.length → GA rb s q w → Calls Tryd.prog 84 #[.pointer (some ⟨rb, 0, none⟩)] w (TreeP rb s w (thingF ch q)))) :
    Calls Tryd.prog 65 #[.pointer (some ⟨rb, 0, none⟩)] w (TreeP rb s w (rowF ch q0)) := by
  obtain ⟨i0, hi, hz0, hz1, hz2⟩ := info_parts infoN
  have HU := Lib.hid (GK.up h0 ((Below.refl _ _).alloc (Nat.le_refl _) (.cells (nodeC 0 u0 (.slice none 0 0)) 27)))
  have HB2 := Lib.hid (heap_alloc_last w (.cells (nodeC 0 u0 (.slice none 0 0)) 27))
  have hsz : (w.alloc (.cells (nodeC 0 u0 (.slice none 0 0)) 27)).heap.size = w.heap.size + 1 := by simp
  have hrb := h0.2.lt
  have hne : w.heap.size ≠ rb := by omega
  have hz := zero27r
  have hq0 := h0.1.len
  have HA := Lib.hid fun (q : List UInt8) (hq : Suf s q) => ah_hid (rb := rb) ⟨#[124, 41]⟩ hq (ahl [124, 41] q) rfl
  have HON := Lib.hid hon
  unfold rowF
  obtain ⟨R, hR⟩ : ∃ R, thgs ch (q0.length + 1) [] q0 = R := ⟨_, rfl⟩
  rw [hR]
  have HR := Lib.hid hR
  clear h0 hR hon
  go_enter Tryd.func65, Tryd.ntmps65
  go_wp2_with fail
  generalize hwA : w.alloc (.cells (nodeC 0 u0 (.slice none 0 0)) 27) = wA at *
  clear hwA
  generalize hb2 : w.heap.size = b2 at *
  have HT0 := Lib.hid (Th.nil (b2 + 1) wA)
  have HG0 := Lib.hid (GK.refl HU.out.2)
  go_loopw [3] (fun sl wr => ∃ ts q k, Hid (thgs ch k ts q = R) ∧ Hid (Th (b2 + 1) ts sl wr) ∧ Hid (GK rb s q wA wr) ∧ q.length < k ∧ ts.length + q.length ≤ q0.length) (fun _ wr => s.size - atR rb wr)
  case atStart => exact ⟨[], q0, q0.length + 1, HR, HT0, HG0, by omega, by simp⟩
  case round =>
    clear HR HT0 HG0
    obtain ⟨ts, q, k, HC, HT, HK, hk, hlen⟩ := hrel
    obtain ⟨wo, rfl⟩ : ∃ wo : World, wo = wr := ⟨_, rfl⟩
    have hG := Lib.hid HK.out.2.2
    obtain ⟨k, rfl⟩ : ∃ j, k = j + 1 := ⟨k - 1, by omega⟩
    cases q with
    | nil =>
      have hr : Except.ok (ts, []) = R := by rw [← HC.out, thgs]
      subst hr
      have hd : Hid (decide (s.size - ([] : List UInt8).length < s.size) = false) := Lib.hid (by simp)
      clear HC hk
      generalize hnn : s.size - ([] : List UInt8).length = n at *
      subst hnn
      generalize hnn : s.size - ([] : List UInt8).length = n at hd hG
      have HNN := Lib.hid hnn
      clear hnn
      go_wp2_with fail
      refine wp_region_owed (fun l act w1 => ∃ X : Nat → Value, act = ⟨(List.toArray (.pointer (some ⟨rb, 0, none⟩) :: undef :: .pointer (some ⟨b2, 0, none⟩) :: u3 :: X 0 :: X 1 :: X 2 :: X 3 :: X 4 :: X 5 :: X 6 :: X 7 :: X 8 :: X 9 :: X 10 :: X 11 :: X 12 :: X 13 :: X 14 :: u19 :: u20 :: u21 :: u22 :: u23 :: undef :: undef :: undef :: undef :: undef :: undef :: [])), []⟩ ∧ (∀ i, l i = true → ([0, 1, 2, 3, 4, 5, 6, 7, 8, 9, 10, 11, 12, 13, 14] : List Nat).contains i = true → X i = (fun i => ([.pointer (some ⟨rb, 0, none⟩), .pointer (some ⟨rb, 0, none⟩), .pointer (some ⟨rb, 1, none⟩), .int .i64 n, .pointer (some ⟨rb, 0, none⟩), .pointer (some ⟨rb, 0, none⟩), .pointer (some ⟨rb, 0, none⟩), .string s, .int .i64 s.size, .bool false, .bool false, undef, undef, undef, .bool false] : List Value).getD i undef) i) ∧ Gk rb s n wo w1) (by kernel_rfl) (by kernel_rfl) ⟨(fun i => ([u4, u5, u6, u7, u8, u9, u10, u11, u12, u13, u14, u15, u16, u17, u18] : List Value).getD i undef), rfl, (fun i h => by cases h), Gk.drewN hG.out 1⟩ ?stra ?finra
      case stra =>
        go_light
        refine Owed.next (n := 0) (o := ?ora0) ?hora0 ?hra0 ?hsra0
        case hora0 => rfl
        case hra0 =>
          intro l act w1 hw hl hI K hK
          obtain ⟨X, rfl, hX, hT⟩ := hI
          have HX := Lib.hid (packsM 0 hX [] (fun _ h => nomatch h))
          clear hX
          rw [if_pos (by rfl)]
          go_wp2_with fail
          exact hK.out _ _ ⟨fun j => bif (0 :: []).contains j then (fun i => ([.pointer (some ⟨rb, 0, none⟩), .pointer (some ⟨rb, 0, none⟩), .pointer (some ⟨rb, 1, none⟩), .int .i64 n, .pointer (some ⟨rb, 0, none⟩), .pointer (some ⟨rb, 0, none⟩), .pointer (some ⟨rb, 0, none⟩), .string s, .int .i64 s.size, .bool false, .bool false, undef, undef, undef, .bool false] : List Value).getD i undef) j else X j, rfl, HX.out, hT⟩
        refine Owed.next (n := 1) (o := ?ora1) ?hora1 ?hra1 ?hsra1
        case hora1 => rfl
        case hra1 =>
          intro l act w1 hw hl hI K hK
          obtain ⟨X, rfl, hX, hT⟩ := hI
          have h0 : X 0 = .pointer (some ⟨rb, 0, none⟩) := hX 0 (hw 0 (by kernel_rfl)) (by kernel_rfl)
          have HX := Lib.hid (packsM 1 hX [0] (List.forall_mem_cons.2 ⟨hw 0 (by kernel_rfl), (fun _ h => nomatch h)⟩))
          clear hX
          have z := hT.2.lt
          rw [h0]
          clear h0
          rw [if_pos (by rfl)]
          go_wp2_with fail
          exact hK.out _ _ ⟨fun j => bif (1 :: [0]).contains j then (fun i => ([.pointer (some ⟨rb, 0, none⟩), .pointer (some ⟨rb, 0, none⟩), .pointer (some ⟨rb, 1, none⟩), .int .i64 n, .pointer (some ⟨rb, 0, none⟩), .pointer (some ⟨rb, 0, none⟩), .pointer (some ⟨rb, 0, none⟩), .string s, .int .i64 s.size, .bool false, .bool false, undef, undef, undef, .bool false] : List Value).getD i undef) j else X j, rfl, HX.out, hT⟩
        refine Owed.next (n := 2) (o := ?ora2) ?hora2 ?hra2 ?hsra2
        case hora2 => rfl
        case hra2 =>
          intro l act w1 hw hl hI K hK
          obtain ⟨X, rfl, hX, hT⟩ := hI
          have h1 : X 1 = .pointer (some ⟨rb, 0, none⟩) := hX 1 (hw 1 (by kernel_rfl)) (by kernel_rfl)
          have HX := Lib.hid (packsM 2 hX [1] (List.forall_mem_cons.2 ⟨hw 1 (by kernel_rfl), (fun _ h => nomatch h)⟩))
          clear hX
          rw [h1]
          clear h1
          rw [if_pos (by rfl)]
          go_wp2_with fail
          exact hK.out _ _ ⟨fun j => bif (2 :: [1]).contains j then (fun i => ([.pointer (some ⟨rb, 0, none⟩), .pointer (some ⟨rb, 0, none⟩), .pointer (some ⟨rb, 1, none⟩), .int .i64 n, .pointer (some ⟨rb, 0, none⟩), .pointer (some ⟨rb, 0, none⟩), .pointer (some ⟨rb, 0, none⟩), .string s, .int .i64 s.size, .bool false, .bool false, undef, undef, undef, .bool false] : List Value).getD i undef) j else X j, rfl, HX.out, hT⟩
        refine Owed.next (n := 3) (o := ?ora3) ?hora3 ?hra3 ?hsra3
        case hora3 => rfl
        case hra3 =>
          intro l act w1 hw hl hI K hK
          obtain ⟨X, rfl, hX, hT⟩ := hI
          have h2 : X 2 = .pointer (some ⟨rb, 1, none⟩) := hX 2 (hw 2 (by kernel_rfl)) (by kernel_rfl)
          have HX := Lib.hid (packsM 3 hX [2] (List.forall_mem_cons.2 ⟨hw 2 (by kernel_rfl), (fun _ h => nomatch h)⟩))
          clear hX
          have c1 := hT.2.c1
          rw [h2]
          clear h2
          rw [if_pos (by rfl)]
          go_wp2_with fail
          exact hK.out _ _ ⟨fun j => bif (3 :: [2]).contains j then (fun i => ([.pointer (some ⟨rb, 0, none⟩), .pointer (some ⟨rb, 0, none⟩), .pointer (some ⟨rb, 1, none⟩), .int .i64 n, .pointer (some ⟨rb, 0, none⟩), .pointer (some ⟨rb, 0, none⟩), .pointer (some ⟨rb, 0, none⟩), .string s, .int .i64 s.size, .bool false, .bool false, undef, undef, undef, .bool false] : List Value).getD i undef) j else X j, rfl, HX.out, hT⟩
        refine Owed.next (n := 4) (o := ?ora4) ?hora4 ?hra4 ?hsra4
        case hora4 => rfl
        case hra4 =>
          intro l act w1 hw hl hI K hK
          obtain ⟨X, rfl, hX, hT⟩ := hI
          have HX := Lib.hid (packsM 4 hX [] (fun _ h => nomatch h))
          clear hX
          rw [if_pos (by rfl)]
          go_wp2_with fail
          exact hK.out _ _ ⟨fun j => bif (4 :: []).contains j then (fun i => ([.pointer (some ⟨rb, 0, none⟩), .pointer (some ⟨rb, 0, none⟩), .pointer (some ⟨rb, 1, none⟩), .int .i64 n, .pointer (some ⟨rb, 0, none⟩), .pointer (some ⟨rb, 0, none⟩), .pointer (some ⟨rb, 0, none⟩), .string s, .int .i64 s.size, .bool false, .bool false, undef, undef, undef, .bool false] : List Value).getD i undef) j else X j, rfl, HX.out, hT⟩
        refine Owed.next (n := 5) (o := ?ora5) ?hora5 ?hra5 ?hsra5
        case hora5 => rfl
        case hra5 =>
          intro l act w1 hw hl hI K hK
          obtain ⟨X, rfl, hX, hT⟩ := hI
          have h4 : X 4 = .pointer (some ⟨rb, 0, none⟩) := hX 4 (hw 4 (by kernel_rfl)) (by kernel_rfl)
          have HX := Lib.hid (packsM 5 hX [4] (List.forall_mem_cons.2 ⟨hw 4 (by kernel_rfl), (fun _ h => nomatch h)⟩))
          clear hX
          have z := hT.2.lt
          rw [h4]
          clear h4
          rw [if_pos (by rfl)]
          go_wp2_with fail
          exact hK.out _ _ ⟨fun j => bif (5 :: [4]).contains j then (fun i => ([.pointer (some ⟨rb, 0, none⟩), .pointer (some ⟨rb, 0, none⟩), .pointer (some ⟨rb, 1, none⟩), .int .i64 n, .pointer (some ⟨rb, 0, none⟩), .pointer (some ⟨rb, 0, none⟩), .pointer (some ⟨rb, 0, none⟩), .string s, .int .i64 s.size, .bool false, .bool false, undef, undef, undef, .bool false] : List Value).getD i undef) j else X j, rfl, HX.out, hT⟩
        refine Owed.next (n := 6) (o := ?ora6) ?hora6 ?hra6 ?hsra6
        case hora6 => rfl
        case hra6 =>
          intro l act w1 hw hl hI K hK
          obtain ⟨X, rfl, hX, hT⟩ := hI
          have h5 : X 5 = .pointer (some ⟨rb, 0, none⟩) := hX 5 (hw 5 (by kernel_rfl)) (by kernel_rfl)
          have HX := Lib.hid (packsM 6 hX [5] (List.forall_mem_cons.2 ⟨hw 5 (by kernel_rfl), (fun _ h => nomatch h)⟩))
          clear hX
          rw [h5]
          clear h5
          rw [if_pos (by rfl)]
          go_wp2_with fail
          exact hK.out _ _ ⟨fun j => bif (6 :: [5]).contains j then (fun i => ([.pointer (some ⟨rb, 0, none⟩), .pointer (some ⟨rb, 0, none⟩), .pointer (some ⟨rb, 1, none⟩), .int .i64 n, .pointer (some ⟨rb, 0, none⟩), .pointer (some ⟨rb, 0, none⟩), .pointer (some ⟨rb, 0, none⟩), .string s, .int .i64 s.size, .bool false, .bool false, undef, undef, undef, .bool false] : List Value).getD i undef) j else X j, rfl, HX.out, hT⟩
        refine Owed.next (n := 7) (o := ?ora7) ?hora7 ?hra7 ?hsra7
        case hora7 => rfl
        case hra7 =>
          intro l act w1 hw hl hI K hK
          obtain ⟨X, rfl, hX, hT⟩ := hI
          have h6 : X 6 = .pointer (some ⟨rb, 0, none⟩) := hX 6 (hw 6 (by kernel_rfl)) (by kernel_rfl)
          have HX := Lib.hid (packsM 7 hX [6] (List.forall_mem_cons.2 ⟨hw 6 (by kernel_rfl), (fun _ h => nomatch h)⟩))
          clear hX
          have c0 := hT.2.c0
          rw [h6]
          clear h6
          rw [if_pos (by rfl)]
          go_wp2_with fail
          exact hK.out _ _ ⟨fun j => bif (7 :: [6]).contains j then (fun i => ([.pointer (some ⟨rb, 0, none⟩), .pointer (some ⟨rb, 0, none⟩), .pointer (some ⟨rb, 1, none⟩), .int .i64 n, .pointer (some ⟨rb, 0, none⟩), .pointer (some ⟨rb, 0, none⟩), .pointer (some ⟨rb, 0, none⟩), .string s, .int .i64 s.size, .bool false, .bool false, undef, undef, undef, .bool false] : List Value).getD i undef) j else X j, rfl, HX.out, hT⟩
        refine Owed.next (n := 8) (o := ?ora8) ?hora8 ?hra8 ?hsra8
        case hora8 => rfl
        case hra8 =>
          intro l act w1 hw hl hI K hK
          obtain ⟨X, rfl, hX, hT⟩ := hI
          have h7 : X 7 = .string s := hX 7 (hw 7 (by kernel_rfl)) (by kernel_rfl)
          have HX := Lib.hid (packsM 8 hX [7] (List.forall_mem_cons.2 ⟨hw 7 (by kernel_rfl), (fun _ h => nomatch h)⟩))
          clear hX
          rw [h7]
          clear h7
          rw [if_pos (by rfl)]
          go_wp2_with fail
          exact hK.out _ _ ⟨fun j => bif (8 :: [7]).contains j then (fun i => ([.pointer (some ⟨rb, 0, none⟩), .pointer (some ⟨rb, 0, none⟩), .pointer (some ⟨rb, 1, none⟩), .int .i64 n, .pointer (some ⟨rb, 0, none⟩), .pointer (some ⟨rb, 0, none⟩), .pointer (some ⟨rb, 0, none⟩), .string s, .int .i64 s.size, .bool false, .bool false, undef, undef, undef, .bool false] : List Value).getD i undef) j else X j, rfl, HX.out, hT⟩
        refine Owed.next (n := 9) (o := ?ora9) ?hora9 ?hra9 ?hsra9
        case hora9 => rfl
        case hra9 =>
          intro l act w1 hw hl hI K hK
          obtain ⟨X, rfl, hX, hT⟩ := hI
          have h3 : X 3 = .int .i64 n := hX 3 (hw 3 (by kernel_rfl)) (by kernel_rfl)
          have h8 : X 8 = .int .i64 s.size := hX 8 (hw 8 (by kernel_rfl)) (by kernel_rfl)
          have HX := Lib.hid (packsM 9 hX [3, 8] (List.forall_mem_cons.2 ⟨hw 3 (by kernel_rfl), (List.forall_mem_cons.2 ⟨hw 8 (by kernel_rfl), (fun _ h => nomatch h)⟩)⟩))
          clear hX
          have hd := hd.out
          rw [h3, h8]
          clear h3 h8
          rw [if_pos (by rfl)]
          go_wp2_with fail
          exact hK.out _ _ ⟨fun j => bif (9 :: [3, 8]).contains j then (fun i => ([.pointer (some ⟨rb, 0, none⟩), .pointer (some ⟨rb, 0, none⟩), .pointer (some ⟨rb, 1, none⟩), .int .i64 n, .pointer (some ⟨rb, 0, none⟩), .pointer (some ⟨rb, 0, none⟩), .pointer (some ⟨rb, 0, none⟩), .string s, .int .i64 s.size, .bool false, .bool false, undef, undef, undef, .bool false] : List Value).getD i undef) j else X j, rfl, HX.out, hT⟩
        refine Owed.next (n := 10) (o := ?ora10) ?hora10 ?hra10 ?hsra10
        case hora10 => rfl
        case hra10 =>
          intro l act w1 hw hl hI K hK
          obtain ⟨X, rfl, hX, hT⟩ := hI
          have h9 : X 9 = .bool false := hX 9 (hw 9 (by kernel_rfl)) (by kernel_rfl)
          have HX := Lib.hid (packsM 10 hX [9] (List.forall_mem_cons.2 ⟨hw 9 (by kernel_rfl), (fun _ h => nomatch h)⟩))
          clear hX
          rw [h9]
          clear h9
          rw [if_pos (by rfl)]
          go_wp2_with fail
          exact hK.out _ _ ⟨fun j => bif (10 :: [9]).contains j then (fun i => ([.pointer (some ⟨rb, 0, none⟩), .pointer (some ⟨rb, 0, none⟩), .pointer (some ⟨rb, 1, none⟩), .int .i64 n, .pointer (some ⟨rb, 0, none⟩), .pointer (some ⟨rb, 0, none⟩), .pointer (some ⟨rb, 0, none⟩), .string s, .int .i64 s.size, .bool false, .bool false, undef, undef, undef, .bool false] : List Value).getD i undef) j else X j, rfl, HX.out, hT⟩
        refine Owed.next (n := 11) (o := ?ora11) ?hora11 ?hra11 ?hsra11
        case hora11 => rfl
        case hra11 =>
          intro l act w1 hw hl hI K hK
          obtain ⟨X, rfl, hX, hT⟩ := hI
          have h10 : X 10 = .bool false := hX 10 (hw 10 (by kernel_rfl)) (by kernel_rfl)
          have HX := Lib.hid (packsM 11 hX [10] (List.forall_mem_cons.2 ⟨hw 10 (by kernel_rfl), (fun _ h => nomatch h)⟩))
          clear hX
          rw [h10]
          clear h10
          rw [if_neg (by exact Bool.false_ne_true)]
          exact hK.out _ _ ⟨fun j => bif (11 :: [10]).contains j then (fun i => ([.pointer (some ⟨rb, 0, none⟩), .pointer (some ⟨rb, 0, none⟩), .pointer (some ⟨rb, 1, none⟩), .int .i64 n, .pointer (some ⟨rb, 0, none⟩), .pointer (some ⟨rb, 0, none⟩), .pointer (some ⟨rb, 0, none⟩), .string s, .int .i64 s.size, .bool false, .bool false, undef, undef, undef, .bool false] : List Value).getD i undef) j else X j, rfl, HX.out, hT⟩
        refine Owed.next (n := 12) (o := ?ora12) ?hora12 ?hra12 ?hsra12
        case hora12 => rfl
        case hra12 =>
          intro l act w1 hw hl hI K hK
          obtain ⟨X, rfl, hX, hT⟩ := hI
          have h10 : X 10 = .bool false := hX 10 (hw 10 (by kernel_rfl)) (by kernel_rfl)
          have HX := Lib.hid (packsM 12 hX [10] (List.forall_mem_cons.2 ⟨hw 10 (by kernel_rfl), (fun _ h => nomatch h)⟩))
          clear hX
          rw [h10]
          clear h10
          rw [if_neg (by exact Bool.false_ne_true)]
          exact hK.out _ _ ⟨fun j => bif (12 :: [10]).contains j then (fun i => ([.pointer (some ⟨rb, 0, none⟩), .pointer (some ⟨rb, 0, none⟩), .pointer (some ⟨rb, 1, none⟩), .int .i64 n, .pointer (some ⟨rb, 0, none⟩), .pointer (some ⟨rb, 0, none⟩), .pointer (some ⟨rb, 0, none⟩), .string s, .int .i64 s.size, .bool false, .bool false, undef, undef, undef, .bool false] : List Value).getD i undef) j else X j, rfl, HX.out, hT⟩
        refine Owed.next (n := 13) (o := ?ora13) ?hora13 ?hra13 ?hsra13
        case hora13 => rfl
        case hra13 =>
          intro l act w1 hw hl hI K hK
          obtain ⟨X, rfl, hX, hT⟩ := hI
          have h10 : X 10 = .bool false := hX 10 (hw 10 (by kernel_rfl)) (by kernel_rfl)
          have HX := Lib.hid (packsM 13 hX [10] (List.forall_mem_cons.2 ⟨hw 10 (by kernel_rfl), (fun _ h => nomatch h)⟩))
          clear hX
          rw [h10]
          clear h10
          rw [if_neg (by exact Bool.false_ne_true)]
          exact hK.out _ _ ⟨fun j => bif (13 :: [10]).contains j then (fun i => ([.pointer (some ⟨rb, 0, none⟩), .pointer (some ⟨rb, 0, none⟩), .pointer (some ⟨rb, 1, none⟩), .int .i64 n, .pointer (some ⟨rb, 0, none⟩), .pointer (some ⟨rb, 0, none⟩), .pointer (some ⟨rb, 0, none⟩), .string s, .int .i64 s.size, .bool false, .bool false, undef, undef, undef, .bool false] : List Value).getD i undef) j else X j, rfl, HX.out, hT⟩
        refine Owed.next (n := 14) (o := ?ora14) ?hora14 ?hra14 ?hsra14
        case hora14 => rfl
        case hra14 =>
          intro l act w1 hw hl hI K hK
          obtain ⟨X, rfl, hX, hT⟩ := hI
          have h10 : X 10 = .bool false := hX 10 (hw 10 (by kernel_rfl)) (by kernel_rfl)
          have HX := Lib.hid (packsM 14 hX [10] (List.forall_mem_cons.2 ⟨hw 10 (by kernel_rfl), (fun _ h => nomatch h)⟩))
          clear hX
          rw [h10]
          clear h10
          rw [if_pos (by rfl)]
          go_wp2_with fail
          exact hK.out _ _ ⟨fun j => bif (14 :: [10]).contains j then (fun i => ([.pointer (some ⟨rb, 0, none⟩), .pointer (some ⟨rb, 0, none⟩), .pointer (some ⟨rb, 1, none⟩), .int .i64 n, .pointer (some ⟨rb, 0, none⟩), .pointer (some ⟨rb, 0, none⟩), .pointer (some ⟨rb, 0, none⟩), .string s, .int .i64 s.size, .bool false, .bool false, undef, undef, undef, .bool false] : List Value).getD i undef) j else X j, rfl, HX.out, hT⟩
        exact Owed.last rfl
      case finra =>
        intro l act w1 hl hI
        obtain ⟨X, rfl, hX, hT⟩ := hI
        have h0 : X 0 = .pointer (some ⟨rb, 0, none⟩) := hX 0 (hl 0 (by kernel_rfl)) (by kernel_rfl)
        have h1 : X 1 = .pointer (some ⟨rb, 0, none⟩) := hX 1 (hl 1 (by kernel_rfl)) (by kernel_rfl)
        have h2 : X 2 = .pointer (some ⟨rb, 1, none⟩) := hX 2 (hl 2 (by kernel_rfl)) (by kernel_rfl)
        have h3 : X 3 = .int .i64 n := hX 3 (hl 3 (by kernel_rfl)) (by kernel_rfl)
        have h4 : X 4 = .pointer (some ⟨rb, 0, none⟩) := hX 4 (hl 4 (by kernel_rfl)) (by kernel_rfl)
        have h5 : X 5 = .pointer (some ⟨rb, 0, none⟩) := hX 5 (hl 5 (by kernel_rfl)) (by kernel_rfl)
        have h6 : X 6 = .pointer (some ⟨rb, 0, none⟩) := hX 6 (hl 6 (by kernel_rfl)) (by kernel_rfl)
        have h7 : X 7 = .string s := hX 7 (hl 7 (by kernel_rfl)) (by kernel_rfl)
        have h8 : X 8 = .int .i64 s.size := hX 8 (hl 8 (by kernel_rfl)) (by kernel_rfl)
        have h9 : X 9 = .bool false := hX 9 (hl 9 (by kernel_rfl)) (by kernel_rfl)
        have h10 : X 10 = .bool false := hX 10 (hl 10 (by kernel_rfl)) (by kernel_rfl)
        have h11 : X 11 = undef := hX 11 (hl 11 (by kernel_rfl)) (by kernel_rfl)
        have h12 : X 12 = undef := hX 12 (hl 12 (by kernel_rfl)) (by kernel_rfl)
        have h13 : X 13 = undef := hX 13 (hl 13 (by kernel_rfl)) (by kernel_rfl)
        have h14 : X 14 = .bool false := hX 14 (hl 14 (by kernel_rfl)) (by kernel_rfl)
        rw [h0, h1, h2, h3, h4, h5, h6, h7, h8, h9, h10, h11, h12, h13, h14]
        clear h0 h1 h2 h3 h4 h5 h6 h7 h8 h9 h10 h11 h12 h13 h14 hX
        have hT : Gk rb s (s.size - ([] : List UInt8).length) wo w1 := by rw [HNN.out]; exact hT
        have HK1 : Hid (GK rb s ([] : List UInt8) wA w1) := Lib.hid (.of HK.out.2.1 (HK.out.gk.trans hT))
        have HT1 := Lib.hid (HT.out.keep hT.1 (fun b hb => by cases hb; omega))
        clear hT hl
        obtain ⟨p3, c3, rfl⟩ := HT1.out.slice
        have s1 := HK1.out.1.size
        have HY : Hid (w1.heap[b2]? = some (.cells (nodeC 0 u0 (.slice none 0 0)) 27)) := Lib.hid (by rw [HK1.out.gk.old (by omega) hne, HB2.out])
        have HE : Hid (GK rb s ([] : List UInt8) w w1) := Lib.hid (HU.out.trans HK1.out)
        clear X HT HK hG
        cases ts with
        | nil =>
          go_wp2_with (refine wpList_store_row rfl 27 (.tmp 2) (.tmp 27) rfl b2 (nodeC 1 u0 (.slice none 0 0)) rfl rfl 27 _ HY.out size27r rfl (nodeC_one _ _ _ _ _) ?_)
          exact bodyPost_ret (v := .agg (nodeC 1 u0 (.slice none 0 0))) (results_cell_row rfl _ _ b2 27 _ (0, 0) _ rfl (setRow_heap w1 b2 _ _ 27 (0, 0) HY.out) Tryd.underlying27 rfl size27r) rfl ⟨⟨_, rfl, RV.leaf 1 u0 none 0⟩, .of HE.out.2.1 (Gk.row HE.out.gk (by omega) hne)⟩
        | cons t0 ts0 =>
          have hJ := Lib.hid (joined_any (w := w1) 3 HT1.out (by simp))
          have hl0 : (((t0 :: ts0).length : Int) == 0) = false := by rw [beq_eq_false_iff_ne]; simp only [List.length_cons]; omega
          have hl1 : decide ((t0 :: ts0).length = 0) = false := by simp
          have hl2 : ((t0 :: ts0).length == 0) = false := by simp
          generalize hm : (t0 :: ts0).length = m at *
          have HM := Lib.hid hm
          clear hm
          go_wp2_with fail
          refine hJ.out.mono ?_
          rintro _ w5 ⟨⟨v, rfl, hv⟩, hb⟩
          obtain ⟨k5, u5, p5, n5, c5, rfl⟩ := hv.form
          have HV := Lib.hid hv
          have hbz := hb.size
          have HY5 : Hid (w5.heap[b2]? = some (.cells (nodeC 0 u0 (.slice none 0 0)) 27)) := Lib.hid ((hb.block b2 (Array.getElem?_eq_some_iff.1 HY.out).1).trans HY.out)
          have HE5 : Hid (GK rb s ([] : List UInt8) w w5) := Lib.hid (HE.out.trans (GK.up HE.out.2 hb))
          clear hv hb
          go_wp2_with (refine wpList_store_row rfl 27 (.tmp 2) (.tmp 29) rfl b2 (nodeC k5 u5 (.slice p5 n5 c5)) rfl rfl 27 _ HY5.out size27r rfl (nodeC_one _ _ _ _ _) ?_)
          refine bodyPost_ret (v := .agg (nodeC k5 u5 (.slice p5 n5 c5))) (results_cell_row rfl _ _ b2 27 _ (0, 0) _ rfl (setRow_heap w5 b2 _ _ 27 (0, 0) HY5.out) Tryd.underlying27 rfl size27r) rfl ⟨⟨_, rfl, ?_⟩, .of HE5.out.2.1 (Gk.row HE5.out.gk (by omega) hne)⟩
          refine HV.out.mono (fun x hx => ?_) (fun x hx _ => setRow_other w5 b2 x _ (by omega))
          have h1 : (w5.setRow b2 (nodeC k5 u5 (.slice p5 n5 c5))).heap.size = w5.heap.size := by simp
          rw [h1]; omega
    | cons c r =>
      have hin : Hid (((s.size - (c :: r).length : Nat) : Int) < (s.size : Int)) := Lib.hid (by have := HK.out.2.1.lt; omega)
      have hA0 := HA.out (c :: r) HK.out.2.1
      by_cases hc : ([124, 41] : List UInt8).contains c
      · have hr : Except.ok (ts, c :: r) = R := by rw [← HC.out, thgs, if_pos hc]
        subst hr
        have hA : AH rb ⟨#[124, 41]⟩ s (s.size - (c :: r).length) true := by rw [show ahl [124, 41] (c :: r) = true from hc] at hA0; exact hA0
        clear HC hk hA0
        have hn2 := hin
        clear hin
        generalize hnn : s.size - (c :: r).length = n at hn2 hG hA
        have HNN := Lib.hid hnn
        clear hnn hc
        go_wp2_with fail
        refine wp_region_owed (fun l act w1 => ∃ X : Nat → Value, act = ⟨(List.toArray (.pointer (some ⟨rb, 0, none⟩) :: undef :: .pointer (some ⟨b2, 0, none⟩) :: u3 :: X 0 :: X 1 :: X 2 :: X 3 :: X 4 :: X 5 :: X 6 :: X 7 :: X 8 :: X 9 :: X 10 :: X 11 :: X 12 :: X 13 :: X 14 :: u19 :: u20 :: u21 :: u22 :: u23 :: undef :: undef :: undef :: undef :: undef :: undef :: [])), []⟩ ∧ (∀ i, l i = true → ([0, 1, 2, 3, 4, 5, 6, 7, 8, 9, 10, 11, 12, 13, 14] : List Nat).contains i = true → X i = (fun i => ([.pointer (some ⟨rb, 0, none⟩), .pointer (some ⟨rb, 0, none⟩), .pointer (some ⟨rb, 1, none⟩), .int .i64 n, .pointer (some ⟨rb, 0, none⟩), .pointer (some ⟨rb, 0, none⟩), .pointer (some ⟨rb, 0, none⟩), .string s, .int .i64 s.size, .bool true, .bool true, .pointer (some ⟨rb, 0, none⟩), .bool true, .bool false, .bool false] : List Value).getD i undef) i) ∧ Gk rb s n wo w1) (by kernel_rfl) (by kernel_rfl) ⟨(fun i => ([u4, u5, u6, u7, u8, u9, u10, u11, u12, u13, u14, u15, u16, u17, u18] : List Value).getD i undef), rfl, (fun i h => by cases h), Gk.drewN hG.out 1⟩ ?strb ?finrb
        case strb =>
          go_light
          refine Owed.next (n := 0) (o := ?orb0) ?horb0 ?hrb0 ?hsrb0
          case horb0 => rfl
          case hrb0 =>
            intro l act w1 hw hl hI K hK
            obtain ⟨X, rfl, hX, hT⟩ := hI
            have HX := Lib.hid (packsM 0 hX [] (fun _ h => nomatch h))
            clear hX
            rw [if_pos (by rfl)]
            go_wp2_with fail
            exact hK.out _ _ ⟨fun j => bif (0 :: []).contains j then (fun i => ([.pointer (some ⟨rb, 0, none⟩), .pointer (some ⟨rb, 0, none⟩), .pointer (some ⟨rb, 1, none⟩), .int .i64 n, .pointer (some ⟨rb, 0, none⟩), .pointer (some ⟨rb, 0, none⟩), .pointer (some ⟨rb, 0, none⟩), .string s, .int .i64 s.size, .bool true, .bool true, .pointer (some ⟨rb, 0, none⟩), .bool true, .bool false, .bool false] : List Value).getD i undef) j else X j, rfl, HX.out, hT⟩
          refine Owed.next (n := 1) (o := ?orb1) ?horb1 ?hrb1 ?hsrb1
          case horb1 => rfl
          case hrb1 =>
            intro l act w1 hw hl hI K hK
            obtain ⟨X, rfl, hX, hT⟩ := hI
            have h0 : X 0 = .pointer (some ⟨rb, 0, none⟩) := hX 0 (hw 0 (by kernel_rfl)) (by kernel_rfl)
            have HX := Lib.hid (packsM 1 hX [0] (List.forall_mem_cons.2 ⟨hw 0 (by kernel_rfl), (fun _ h => nomatch h)⟩))
            clear hX
            have z := hT.2.lt
            rw [h0]
            clear h0
            rw [if_pos (by rfl)]
            go_wp2_with fail
            exact hK.out _ _ ⟨fun j => bif (1 :: [0]).contains j then (fun i => ([.pointer (some ⟨rb, 0, none⟩), .pointer (some ⟨rb, 0, none⟩), .pointer (some ⟨rb, 1, none⟩), .int .i64 n, .pointer (some ⟨rb, 0, none⟩), .pointer (some ⟨rb, 0, none⟩), .pointer (some ⟨rb, 0, none⟩), .string s, .int .i64 s.size, .bool true, .bool true, .pointer (some ⟨rb, 0, none⟩), .bool true, .bool false, .bool false] : List Value).getD i undef) j else X j, rfl, HX.out, hT⟩
          refine Owed.next (n := 2) (o := ?orb2) ?horb2 ?hrb2 ?hsrb2
          case horb2 => rfl
          case hrb2 =>
            intro l act w1 hw hl hI K hK
            obtain ⟨X, rfl, hX, hT⟩ := hI
            have h1 : X 1 = .pointer (some ⟨rb, 0, none⟩) := hX 1 (hw 1 (by kernel_rfl)) (by kernel_rfl)
            have HX := Lib.hid (packsM 2 hX [1] (List.forall_mem_cons.2 ⟨hw 1 (by kernel_rfl), (fun _ h => nomatch h)⟩))
            clear hX
            rw [h1]
            clear h1
            rw [if_pos (by rfl)]
            go_wp2_with fail
            exact hK.out _ _ ⟨fun j => bif (2 :: [1]).contains j then (fun i => ([.pointer (some ⟨rb, 0, none⟩), .pointer (some ⟨rb, 0, none⟩), .pointer (some ⟨rb, 1, none⟩), .int .i64 n, .pointer (some ⟨rb, 0, none⟩), .pointer (some ⟨rb, 0, none⟩), .pointer (some ⟨rb, 0, none⟩), .string s, .int .i64 s.size, .bool true, .bool true, .pointer (some ⟨rb, 0, none⟩), .bool true, .bool false, .bool false] : List Value).getD i undef) j else X j, rfl, HX.out, hT⟩
          refine Owed.next (n := 3) (o := ?orb3) ?horb3 ?hrb3 ?hsrb3
          case horb3 => rfl
          case hrb3 =>
            intro l act w1 hw hl hI K hK
            obtain ⟨X, rfl, hX, hT⟩ := hI
            have h2 : X 2 = .pointer (some ⟨rb, 1, none⟩) := hX 2 (hw 2 (by kernel_rfl)) (by kernel_rfl)
            have HX := Lib.hid (packsM 3 hX [2] (List.forall_mem_cons.2 ⟨hw 2 (by kernel_rfl), (fun _ h => nomatch h)⟩))
            clear hX
            have c1 := hT.2.c1
            rw [h2]
            clear h2
            rw [if_pos (by rfl)]
            go_wp2_with fail
            exact hK.out _ _ ⟨fun j => bif (3 :: [2]).contains j then (fun i => ([.pointer (some ⟨rb, 0, none⟩), .pointer (some ⟨rb, 0, none⟩), .pointer (some ⟨rb, 1, none⟩), .int .i64 n, .pointer (some ⟨rb, 0, none⟩), .pointer (some ⟨rb, 0, none⟩), .pointer (some ⟨rb, 0, none⟩), .string s, .int .i64 s.size, .bool true, .bool true, .pointer (some ⟨rb, 0, none⟩), .bool true, .bool false, .bool false] : List Value).getD i undef) j else X j, rfl, HX.out, hT⟩
          refine Owed.next (n := 4) (o := ?orb4) ?horb4 ?hrb4 ?hsrb4
          case horb4 => rfl
          case hrb4 =>
            intro l act w1 hw hl hI K hK
            obtain ⟨X, rfl, hX, hT⟩ := hI
            have HX := Lib.hid (packsM 4 hX [] (fun _ h => nomatch h))
            clear hX
            rw [if_pos (by rfl)]
            go_wp2_with fail
            exact hK.out _ _ ⟨fun j => bif (4 :: []).contains j then (fun i => ([.pointer (some ⟨rb, 0, none⟩), .pointer (some ⟨rb, 0, none⟩), .pointer (some ⟨rb, 1, none⟩), .int .i64 n, .pointer (some ⟨rb, 0, none⟩), .pointer (some ⟨rb, 0, none⟩), .pointer (some ⟨rb, 0, none⟩), .string s, .int .i64 s.size, .bool true, .bool true, .pointer (some ⟨rb, 0, none⟩), .bool true, .bool false, .bool false] : List Value).getD i undef) j else X j, rfl, HX.out, hT⟩
          refine Owed.next (n := 5) (o := ?orb5) ?horb5 ?hrb5 ?hsrb5
          case horb5 => rfl
          case hrb5 =>
            intro l act w1 hw hl hI K hK
            obtain ⟨X, rfl, hX, hT⟩ := hI
            have h4 : X 4 = .pointer (some ⟨rb, 0, none⟩) := hX 4 (hw 4 (by kernel_rfl)) (by kernel_rfl)
            have HX := Lib.hid (packsM 5 hX [4] (List.forall_mem_cons.2 ⟨hw 4 (by kernel_rfl), (fun _ h => nomatch h)⟩))
            clear hX
            have z := hT.2.lt
            rw [h4]
            clear h4
            rw [if_pos (by rfl)]
            go_wp2_with fail
            exact hK.out _ _ ⟨fun j => bif (5 :: [4]).contains j then (fun i => ([.pointer (some ⟨rb, 0, none⟩), .pointer (some ⟨rb, 0, none⟩), .pointer (some ⟨rb, 1, none⟩), .int .i64 n, .pointer (some ⟨rb, 0, none⟩), .pointer (some ⟨rb, 0, none⟩), .pointer (some ⟨rb, 0, none⟩), .string s, .int .i64 s.size, .bool true, .bool true, .pointer (some ⟨rb, 0, none⟩), .bool true, .bool false, .bool false] : List Value).getD i undef) j else X j, rfl, HX.out, hT⟩
          refine Owed.next (n := 6) (o := ?orb6) ?horb6 ?hrb6 ?hsrb6
          case horb6 => rfl
          case hrb6 =>
            intro l act w1 hw hl hI K hK
            obtain ⟨X, rfl, hX, hT⟩ := hI
            have h5 : X 5 = .pointer (some ⟨rb, 0, none⟩) := hX 5 (hw 5 (by kernel_rfl)) (by kernel_rfl)
            have HX := Lib.hid (packsM 6 hX [5] (List.forall_mem_cons.2 ⟨hw 5 (by kernel_rfl), (fun _ h => nomatch h)⟩))
            clear hX
            rw [h5]
            clear h5
            rw [if_pos (by rfl)]
            go_wp2_with fail
            exact hK.out _ _ ⟨fun j => bif (6 :: [5]).contains j then (fun i => ([.pointer (some ⟨rb, 0, none⟩), .pointer (some ⟨rb, 0, none⟩), .pointer (some ⟨rb, 1, none⟩), .int .i64 n, .pointer (some ⟨rb, 0, none⟩), .pointer (some ⟨rb, 0, none⟩), .pointer (some ⟨rb, 0, none⟩), .string s, .int .i64 s.size, .bool true, .bool true, .pointer (some ⟨rb, 0, none⟩), .bool true, .bool false, .bool false] : List Value).getD i undef) j else X j, rfl, HX.out, hT⟩
          refine Owed.next (n := 7) (o := ?orb7) ?horb7 ?hrb7 ?hsrb7
          case horb7 => rfl
          case hrb7 =>
            intro l act w1 hw hl hI K hK
            obtain ⟨X, rfl, hX, hT⟩ := hI
            have h6 : X 6 = .pointer (some ⟨rb, 0, none⟩) := hX 6 (hw 6 (by kernel_rfl)) (by kernel_rfl)
            have HX := Lib.hid (packsM 7 hX [6] (List.forall_mem_cons.2 ⟨hw 6 (by kernel_rfl), (fun _ h => nomatch h)⟩))
            clear hX
            have c0 := hT.2.c0
            rw [h6]
            clear h6
            rw [if_pos (by rfl)]
            go_wp2_with fail
            exact hK.out _ _ ⟨fun j => bif (7 :: [6]).contains j then (fun i => ([.pointer (some ⟨rb, 0, none⟩), .pointer (some ⟨rb, 0, none⟩), .pointer (some ⟨rb, 1, none⟩), .int .i64 n, .pointer (some ⟨rb, 0, none⟩), .pointer (some ⟨rb, 0, none⟩), .pointer (some ⟨rb, 0, none⟩), .string s, .int .i64 s.size, .bool true, .bool true, .pointer (some ⟨rb, 0, none⟩), .bool true, .bool false, .bool false] : List Value).getD i undef) j else X j, rfl, HX.out, hT⟩
          refine Owed.next (n := 8) (o := ?orb8) ?horb8 ?hrb8 ?hsrb8
          case horb8 => rfl
          case hrb8 =>
            intro l act w1 hw hl hI K hK
            obtain ⟨X, rfl, hX, hT⟩ := hI
            have h7 : X 7 = .string s := hX 7 (hw 7 (by kernel_rfl)) (by kernel_rfl)
            have HX := Lib.hid (packsM 8 hX [7] (List.forall_mem_cons.2 ⟨hw 7 (by kernel_rfl), (fun _ h => nomatch h)⟩))
            clear hX
            rw [h7]
            clear h7
            rw [if_pos (by rfl)]
            go_wp2_with fail
            exact hK.out _ _ ⟨fun j => bif (8 :: [7]).contains j then (fun i => ([.pointer (some ⟨rb, 0, none⟩), .pointer (some ⟨rb, 0, none⟩), .pointer (some ⟨rb, 1, none⟩), .int .i64 n, .pointer (some ⟨rb, 0, none⟩), .pointer (some ⟨rb, 0, none⟩), .pointer (some ⟨rb, 0, none⟩), .string s, .int .i64 s.size, .bool true, .bool true, .pointer (some ⟨rb, 0, none⟩), .bool true, .bool false, .bool false] : List Value).getD i undef) j else X j, rfl, HX.out, hT⟩
          refine Owed.next (n := 9) (o := ?orb9) ?horb9 ?hrb9 ?hsrb9
          case horb9 => rfl
          case hrb9 =>
            intro l act w1 hw hl hI K hK
            obtain ⟨X, rfl, hX, hT⟩ := hI
            have h3 : X 3 = .int .i64 n := hX 3 (hw 3 (by kernel_rfl)) (by kernel_rfl)
            have h8 : X 8 = .int .i64 s.size := hX 8 (hw 8 (by kernel_rfl)) (by kernel_rfl)
            have HX := Lib.hid (packsM 9 hX [3, 8] (List.forall_mem_cons.2 ⟨hw 3 (by kernel_rfl), (List.forall_mem_cons.2 ⟨hw 8 (by kernel_rfl), (fun _ h => nomatch h)⟩)⟩))
            clear hX
            have hn2 := hn2.out
            rw [h3, h8]
            clear h3 h8
            rw [if_pos (by rfl)]
            go_wp2_with fail
            exact hK.out _ _ ⟨fun j => bif (9 :: [3, 8]).contains j then (fun i => ([.pointer (some ⟨rb, 0, none⟩), .pointer (some ⟨rb, 0, none⟩), .pointer (some ⟨rb, 1, none⟩), .int .i64 n, .pointer (some ⟨rb, 0, none⟩), .pointer (some ⟨rb, 0, none⟩), .pointer (some ⟨rb, 0, none⟩), .string s, .int .i64 s.size, .bool true, .bool true, .pointer (some ⟨rb, 0, none⟩), .bool true, .bool false, .bool false] : List Value).getD i undef) j else X j, rfl, HX.out, hT⟩
          refine Owed.next (n := 10) (o := ?orb10) ?horb10 ?hrb10 ?hsrb10
          case horb10 => rfl
          case hrb10 =>
            intro l act w1 hw hl hI K hK
            obtain ⟨X, rfl, hX, hT⟩ := hI
            have h9 : X 9 = .bool true := hX 9 (hw 9 (by kernel_rfl)) (by kernel_rfl)
            have HX := Lib.hid (packsM 10 hX [9] (List.forall_mem_cons.2 ⟨hw 9 (by kernel_rfl), (fun _ h => nomatch h)⟩))
            clear hX
            rw [h9]
            clear h9
            rw [if_pos (by rfl)]
            go_wp2_with fail
            exact hK.out _ _ ⟨fun j => bif (10 :: [9]).contains j then (fun i => ([.pointer (some ⟨rb, 0, none⟩), .pointer (some ⟨rb, 0, none⟩), .pointer (some ⟨rb, 1, none⟩), .int .i64 n, .pointer (some ⟨rb, 0, none⟩), .pointer (some ⟨rb, 0, none⟩), .pointer (some ⟨rb, 0, none⟩), .string s, .int .i64 s.size, .bool true, .bool true, .pointer (some ⟨rb, 0, none⟩), .bool true, .bool false, .bool false] : List Value).getD i undef) j else X j, rfl, HX.out, hT⟩
          refine Owed.next (n := 11) (o := ?orb11) ?horb11 ?hrb11 ?hsrb11
          case horb11 => rfl
          case hrb11 =>
            intro l act w1 hw hl hI K hK
            obtain ⟨X, rfl, hX, hT⟩ := hI
            have h10 : X 10 = .bool true := hX 10 (hw 10 (by kernel_rfl)) (by kernel_rfl)
            have HX := Lib.hid (packsM 11 hX [10] (List.forall_mem_cons.2 ⟨hw 10 (by kernel_rfl), (fun _ h => nomatch h)⟩))
            clear hX
            rw [h10]
            clear h10
            rw [if_pos (by rfl)]
            go_wp2_with fail
            exact hK.out _ _ ⟨fun j => bif (11 :: [10]).contains j then (fun i => ([.pointer (some ⟨rb, 0, none⟩), .pointer (some ⟨rb, 0, none⟩), .pointer (some ⟨rb, 1, none⟩), .int .i64 n, .pointer (some ⟨rb, 0, none⟩), .pointer (some ⟨rb, 0, none⟩), .pointer (some ⟨rb, 0, none⟩), .string s, .int .i64 s.size, .bool true, .bool true, .pointer (some ⟨rb, 0, none⟩), .bool true, .bool false, .bool false] : List Value).getD i undef) j else X j, rfl, HX.out, hT⟩
          refine Owed.next (n := 12) (o := ?orb12) ?horb12 ?hrb12 ?hsrb12
          case horb12 => rfl
          case hrb12 =>
            intro l act w1 hw hl hI K hK
            obtain ⟨X, rfl, hX, hT⟩ := hI
            have h10 : X 10 = .bool true := hX 10 (hw 10 (by kernel_rfl)) (by kernel_rfl)
            have h11 : X 11 = .pointer (some ⟨rb, 0, none⟩) := hX 11 (hw 11 (by kernel_rfl)) (by kernel_rfl)
            have HX := Lib.hid (packsM 12 hX [10, 11] (List.forall_mem_cons.2 ⟨hw 10 (by kernel_rfl), (List.forall_mem_cons.2 ⟨hw 11 (by kernel_rfl), (fun _ h => nomatch h)⟩)⟩))
            clear hX
            rw [h10, h11]
            clear h10 h11
            rw [if_pos (by rfl)]
            go_wp2_with fail
            refine (hA.out _ hT.2).mono ?_
            rintro _ w2 ⟨rfl, hk⟩
            exact hK.out _ _ ⟨fun j => bif (12 :: [10, 11]).contains j then (fun i => ([.pointer (some ⟨rb, 0, none⟩), .pointer (some ⟨rb, 0, none⟩), .pointer (some ⟨rb, 1, none⟩), .int .i64 n, .pointer (some ⟨rb, 0, none⟩), .pointer (some ⟨rb, 0, none⟩), .pointer (some ⟨rb, 0, none⟩), .string s, .int .i64 s.size, .bool true, .bool true, .pointer (some ⟨rb, 0, none⟩), .bool true, .bool false, .bool false] : List Value).getD i undef) j else X j, rfl, HX.out, hT.trans hk⟩
          refine Owed.next (n := 13) (o := ?orb13) ?horb13 ?hrb13 ?hsrb13
          case horb13 => rfl
          case hrb13 =>
            intro l act w1 hw hl hI K hK
            obtain ⟨X, rfl, hX, hT⟩ := hI
            have h10 : X 10 = .bool true := hX 10 (hw 10 (by kernel_rfl)) (by kernel_rfl)
            have h12 : X 12 = .bool true := hX 12 (hw 12 (by kernel_rfl)) (by kernel_rfl)
            have HX := Lib.hid (packsM 13 hX [10, 12] (List.forall_mem_cons.2 ⟨hw 10 (by kernel_rfl), (List.forall_mem_cons.2 ⟨hw 12 (by kernel_rfl), (fun _ h => nomatch h)⟩)⟩))
            clear hX
            rw [h10, h12]
            clear h10 h12
            rw [if_pos (by rfl)]
            go_wp2_with fail
            exact hK.out _ _ ⟨fun j => bif (13 :: [10, 12]).contains j then (fun i => ([.pointer (some ⟨rb, 0, none⟩), .pointer (some ⟨rb, 0, none⟩), .pointer (some ⟨rb, 1, none⟩), .int .i64 n, .pointer (some ⟨rb, 0, none⟩), .pointer (some ⟨rb, 0, none⟩), .pointer (some ⟨rb, 0, none⟩), .string s, .int .i64 s.size, .bool true, .bool true, .pointer (some ⟨rb, 0, none⟩), .bool true, .bool false, .bool false] : List Value).getD i undef) j else X j, rfl, HX.out, hT⟩
          refine Owed.next (n := 14) (o := ?orb14) ?horb14 ?hrb14 ?hsrb14
          case horb14 => rfl
          case hrb14 =>
            intro l act w1 hw hl hI K hK
            obtain ⟨X, rfl, hX, hT⟩ := hI
            have h10 : X 10 = .bool true := hX 10 (hw 10 (by kernel_rfl)) (by kernel_rfl)
            have h13 : X 13 = .bool false := hX 13 (hw 13 (by kernel_rfl)) (by kernel_rfl)
            have HX := Lib.hid (packsM 14 hX [10, 13] (List.forall_mem_cons.2 ⟨hw 10 (by kernel_rfl), (List.forall_mem_cons.2 ⟨hw 13 (by kernel_rfl), (fun _ h => nomatch h)⟩)⟩))
            clear hX
            rw [h10, h13]
            clear h10 h13
            rw [if_pos (by rfl)]
            go_wp2_with fail
            exact hK.out _ _ ⟨fun j => bif (14 :: [10, 13]).contains j then (fun i => ([.pointer (some ⟨rb, 0, none⟩), .pointer (some ⟨rb, 0, none⟩), .pointer (some ⟨rb, 1, none⟩), .int .i64 n, .pointer (some ⟨rb, 0, none⟩), .pointer (some ⟨rb, 0, none⟩), .pointer (some ⟨rb, 0, none⟩), .string s, .int .i64 s.size, .bool true, .bool true, .pointer (some ⟨rb, 0, none⟩), .bool true, .bool false, .bool false] : List Value).getD i undef) j else X j, rfl, HX.out, hT⟩
          exact Owed.last rfl
        case finrb =>
          intro l act w1 hl hI
          obtain ⟨X, rfl, hX, hT⟩ := hI
          have h0 : X 0 = .pointer (some ⟨rb, 0, none⟩) := hX 0 (hl 0 (by kernel_rfl)) (by kernel_rfl)
          have h1 : X 1 = .pointer (some ⟨rb, 0, none⟩) := hX 1 (hl 1 (by kernel_rfl)) (by kernel_rfl)
          have h2 : X 2 = .pointer (some ⟨rb, 1, none⟩) := hX 2 (hl 2 (by kernel_rfl)) (by kernel_rfl)
          have h3 : X 3 = .int .i64 n := hX 3 (hl 3 (by kernel_rfl)) (by kernel_rfl)
          have h4 : X 4 = .pointer (some ⟨rb, 0, none⟩) := hX 4 (hl 4 (by kernel_rfl)) (by kernel_rfl)
          have h5 : X 5 = .pointer (some ⟨rb, 0, none⟩) := hX 5 (hl 5 (by kernel_rfl)) (by kernel_rfl)
          have h6 : X 6 = .pointer (some ⟨rb, 0, none⟩) := hX 6 (hl 6 (by kernel_rfl)) (by kernel_rfl)
          have h7 : X 7 = .string s := hX 7 (hl 7 (by kernel_rfl)) (by kernel_rfl)
          have h8 : X 8 = .int .i64 s.size := hX 8 (hl 8 (by kernel_rfl)) (by kernel_rfl)
          have h9 : X 9 = .bool true := hX 9 (hl 9 (by kernel_rfl)) (by kernel_rfl)
          have h10 : X 10 = .bool true := hX 10 (hl 10 (by kernel_rfl)) (by kernel_rfl)
          have h11 : X 11 = .pointer (some ⟨rb, 0, none⟩) := hX 11 (hl 11 (by kernel_rfl)) (by kernel_rfl)
          have h12 : X 12 = .bool true := hX 12 (hl 12 (by kernel_rfl)) (by kernel_rfl)
          have h13 : X 13 = .bool false := hX 13 (hl 13 (by kernel_rfl)) (by kernel_rfl)
          have h14 : X 14 = .bool false := hX 14 (hl 14 (by kernel_rfl)) (by kernel_rfl)
          rw [h0, h1, h2, h3, h4, h5, h6, h7, h8, h9, h10, h11, h12, h13, h14]
          clear h0 h1 h2 h3 h4 h5 h6 h7 h8 h9 h10 h11 h12 h13 h14 hX
          have hT : Gk rb s (s.size - (c :: r).length) wo w1 := by rw [HNN.out]; exact hT
          have HK1 : Hid (GK rb s (c :: r) wA w1) := Lib.hid (.of HK.out.2.1 (HK.out.gk.trans hT))
          have HT1 := Lib.hid (HT.out.keep hT.1 (fun b hb => by cases hb; omega))
          clear hT hl
          obtain ⟨p3, c3, rfl⟩ := HT1.out.slice
          have s1 := HK1.out.1.size
          have HY : Hid (w1.heap[b2]? = some (.cells (nodeC 0 u0 (.slice none 0 0)) 27)) := Lib.hid (by rw [HK1.out.gk.old (by omega) hne, HB2.out])
          have HE : Hid (GK rb s (c :: r) w w1) := Lib.hid (HU.out.trans HK1.out)
          clear X HT HK hG
          cases ts with
          | nil =>
            go_wp2_with (refine wpList_store_row rfl 27 (.tmp 2) (.tmp 27) rfl b2 (nodeC 1 u0 (.slice none 0 0)) rfl rfl 27 _ HY.out size27r rfl (nodeC_one _ _ _ _ _) ?_)
            exact bodyPost_ret (v := .agg (nodeC 1 u0 (.slice none 0 0))) (results_cell_row rfl _ _ b2 27 _ (0, 0) _ rfl (setRow_heap w1 b2 _ _ 27 (0, 0) HY.out) Tryd.underlying27 rfl size27r) rfl ⟨⟨_, rfl, RV.leaf 1 u0 none 0⟩, .of HE.out.2.1 (Gk.row HE.out.gk (by omega) hne)⟩
          | cons t0 ts0 =>
            have hJ := Lib.hid (joined_any (w := w1) 3 HT1.out (by simp))
            have hl0 : (((t0 :: ts0).length : Int) == 0) = false := by rw [beq_eq_false_iff_ne]; simp only [List.length_cons]; omega
            have hl1 : decide ((t0 :: ts0).length = 0) = false := by simp
            have hl2 : ((t0 :: ts0).length == 0) = false := by simp
            generalize hm : (t0 :: ts0).length = m at *
            have HM := Lib.hid hm
            clear hm
            go_wp2_with fail
            refine hJ.out.mono ?_
            rintro _ w5 ⟨⟨v, rfl, hv⟩, hb⟩
            obtain ⟨k5, u5, p5, n5, c5, rfl⟩ := hv.form
            have HV := Lib.hid hv
            have hbz := hb.size
            have HY5 : Hid (w5.heap[b2]? = some (.cells (nodeC 0 u0 (.slice none 0 0)) 27)) := Lib.hid ((hb.block b2 (Array.getElem?_eq_some_iff.1 HY.out).1).trans HY.out)
            have HE5 : Hid (GK rb s (c :: r) w w5) := Lib.hid (HE.out.trans (GK.up HE.out.2 hb))
            clear hv hb
            go_wp2_with (refine wpList_store_row rfl 27 (.tmp 2) (.tmp 29) rfl b2 (nodeC k5 u5 (.slice p5 n5 c5)) rfl rfl 27 _ HY5.out size27r rfl (nodeC_one _ _ _ _ _) ?_)
            refine bodyPost_ret (v := .agg (nodeC k5 u5 (.slice p5 n5 c5))) (results_cell_row rfl _ _ b2 27 _ (0, 0) _ rfl (setRow_heap w5 b2 _ _ 27 (0, 0) HY5.out) Tryd.underlying27 rfl size27r) rfl ⟨⟨_, rfl, ?_⟩, .of HE5.out.2.1 (Gk.row HE5.out.gk (by omega) hne)⟩
            refine HV.out.mono (fun x hx => ?_) (fun x hx _ => setRow_other w5 b2 x _ (by omega))
            have h1 : (w5.setRow b2 (nodeC k5 u5 (.slice p5 n5 c5))).heap.size = w5.heap.size := by simp
            rw [h1]; omega
      · have hA : AH rb ⟨#[124, 41]⟩ s (s.size - (c :: r).length) false := by rw [show ahl [124, 41] (c :: r) = false from by simpa [ahl] using hc] at hA0; exact hA0
        have hTHq := Lib.hid fun w hg => hTH.out (c :: r) w (by omega) hg
        have hn2 := hin
        clear hin hA0
        generalize hnn : s.size - (c :: r).length = n at hn2 hG hA
        have HNN := Lib.hid hnn
        clear hnn
        go_wp2_with fail
        refine wp_region_owed (fun l act w1 => ∃ X : Nat → Value, act = ⟨(List.toArray (.pointer (some ⟨rb, 0, none⟩) :: undef :: .pointer (some ⟨b2, 0, none⟩) :: u3 :: X 0 :: X 1 :: X 2 :: X 3 :: X 4 :: X 5 :: X 6 :: X 7 :: X 8 :: X 9 :: X 10 :: X 11 :: X 12 :: X 13 :: X 14 :: u19 :: u20 :: u21 :: u22 :: u23 :: undef :: undef :: undef :: undef :: undef :: undef :: [])), []⟩ ∧ (∀ i, l i = true → ([0, 1, 2, 3, 4, 5, 6, 7, 8, 9, 10, 11, 12, 13, 14] : List Nat).contains i = true → X i = (fun i => ([.pointer (some ⟨rb, 0, none⟩), .pointer (some ⟨rb, 0, none⟩), .pointer (some ⟨rb, 1, none⟩), .int .i64 n, .pointer (some ⟨rb, 0, none⟩), .pointer (some ⟨rb, 0, none⟩), .pointer (some ⟨rb, 0, none⟩), .string s, .int .i64 s.size, .bool true, .bool true, .pointer (some ⟨rb, 0, none⟩), .bool false, .bool true, .bool true] : List Value).getD i undef) i) ∧ Gk rb s n wo w1) (by kernel_rfl) (by kernel_rfl) ⟨(fun i => ([u4, u5, u6, u7, u8, u9, u10, u11, u12, u13, u14, u15, u16, u17, u18] : List Value).getD i undef), rfl, (fun i h => by cases h), Gk.drewN hG.out 1⟩ ?strc ?finrc
        case strc =>
          go_light
          refine Owed.next (n := 0) (o := ?orc0) ?horc0 ?hrc0 ?hsrc0
          case horc0 => rfl
          case hrc0 =>
            intro l act w1 hw hl hI K hK
            obtain ⟨X, rfl, hX, hT⟩ := hI
            have HX := Lib.hid (packsM 0 hX [] (fun _ h => nomatch h))
            clear hX
            rw [if_pos (by rfl)]
            go_wp2_with fail
            exact hK.out _ _ ⟨fun j => bif (0 :: []).contains j then (fun i => ([.pointer (some ⟨rb, 0, none⟩), .pointer (some ⟨rb, 0, none⟩), .pointer (some ⟨rb, 1, none⟩), .int .i64 n, .pointer (some ⟨rb, 0, none⟩), .pointer (some ⟨rb, 0, none⟩), .pointer (some ⟨rb, 0, none⟩), .string s, .int .i64 s.size, .bool true, .bool true, .pointer (some ⟨rb, 0, none⟩), .bool false, .bool true, .bool true] : List Value).getD i undef) j else X j, rfl, HX.out, hT⟩
          refine Owed.next (n := 1) (o := ?orc1) ?horc1 ?hrc1 ?hsrc1
          case horc1 => rfl
          case hrc1 =>
            intro l act w1 hw hl hI K hK
            obtain ⟨X, rfl, hX, hT⟩ := hI
            have h0 : X 0 = .pointer (some ⟨rb, 0, none⟩) := hX 0 (hw 0 (by kernel_rfl)) (by kernel_rfl)
            have HX := Lib.hid (packsM 1 hX [0] (List.forall_mem_cons.2 ⟨hw 0 (by kernel_rfl), (fun _ h => nomatch h)⟩))
            clear hX
            have z := hT.2.lt
            rw [h0]
            clear h0
            rw [if_pos (by rfl)]
            go_wp2_with fail
            exact hK.out _ _ ⟨fun j => bif (1 :: [0]).contains j then (fun i => ([.pointer (some ⟨rb, 0, none⟩), .pointer (some ⟨rb, 0, none⟩), .pointer (some ⟨rb, 1, none⟩), .int .i64 n, .pointer (some ⟨rb, 0, none⟩), .pointer (some ⟨rb, 0, none⟩), .pointer (some ⟨rb, 0, none⟩), .string s, .int .i64 s.size, .bool true, .bool true, .pointer (some ⟨rb, 0, none⟩), .bool false, .bool true, .bool true] : List Value).getD i undef) j else X j, rfl, HX.out, hT⟩
          refine Owed.next (n := 2) (o := ?orc2) ?horc2 ?hrc2 ?hsrc2
          case horc2 => rfl
          case hrc2 =>
            intro l act w1 hw hl hI K hK
            obtain ⟨X, rfl, hX, hT⟩ := hI
            have h1 : X 1 = .pointer (some ⟨rb, 0, none⟩) := hX 1 (hw 1 (by kernel_rfl)) (by kernel_rfl)
            have HX := Lib.hid (packsM 2 hX [1] (List.forall_mem_cons.2 ⟨hw 1 (by kernel_rfl), (fun _ h => nomatch h)⟩))
            clear hX
            rw [h1]
            clear h1
            rw [if_pos (by rfl)]
            go_wp2_with fail
            exact hK.out _ _ ⟨fun j => bif (2 :: [1]).contains j then (fun i => ([.pointer (some ⟨rb, 0, none⟩), .pointer (some ⟨rb, 0, none⟩), .pointer (some ⟨rb, 1, none⟩), .int .i64 n, .pointer (some ⟨rb, 0, none⟩), .pointer (some ⟨rb, 0, none⟩), .pointer (some ⟨rb, 0, none⟩), .string s, .int .i64 s.size, .bool true, .bool true, .pointer (some ⟨rb, 0, none⟩), .bool false, .bool true, .bool true] : List Value).getD i undef) j else X j, rfl, HX.out, hT⟩
          refine Owed.next (n := 3) (o := ?orc3) ?horc3 ?hrc3 ?hsrc3
          case horc3 => rfl
          case hrc3 =>
            intro l act w1 hw hl hI K hK
            obtain ⟨X, rfl, hX, hT⟩ := hI
            have h2 : X 2 = .pointer (some ⟨rb, 1, none⟩) := hX 2 (hw 2 (by kernel_rfl)) (by kernel_rfl)
            have HX := Lib.hid (packsM 3 hX [2] (List.forall_mem_cons.2 ⟨hw 2 (by kernel_rfl), (fun _ h => nomatch h)⟩))
            clear hX
            have c1 := hT.2.c1
            rw [h2]
            clear h2
            rw [if_pos (by rfl)]
            go_wp2_with fail
            exact hK.out _ _ ⟨fun j => bif (3 :: [2]).contains j then (fun i => ([.pointer (some ⟨rb, 0, none⟩), .pointer (some ⟨rb, 0, none⟩), .pointer (some ⟨rb, 1, none⟩), .int .i64 n, .pointer (some ⟨rb, 0, none⟩), .pointer (some ⟨rb, 0, none⟩), .pointer (some ⟨rb, 0, none⟩), .string s, .int .i64 s.size, .bool true, .bool true, .pointer (some ⟨rb, 0, none⟩), .bool false, .bool true, .bool true] : List Value).getD i undef) j else X j, rfl, HX.out, hT⟩
          refine Owed.next (n := 4) (o := ?orc4) ?horc4 ?hrc4 ?hsrc4
          case horc4 => rfl
          case hrc4 =>
            intro l act w1 hw hl hI K hK
            obtain ⟨X, rfl, hX, hT⟩ := hI
            have HX := Lib.hid (packsM 4 hX [] (fun _ h => nomatch h))
            clear hX
            rw [if_pos (by rfl)]
            go_wp2_with fail
            exact hK.out _ _ ⟨fun j => bif (4 :: []).contains j then (fun i => ([.pointer (some ⟨rb, 0, none⟩), .pointer (some ⟨rb, 0, none⟩), .pointer (some ⟨rb, 1, none⟩), .int .i64 n, .pointer (some ⟨rb, 0, none⟩), .pointer (some ⟨rb, 0, none⟩), .pointer (some ⟨rb, 0, none⟩), .string s, .int .i64 s.size, .bool true, .bool true, .pointer (some ⟨rb, 0, none⟩), .bool false, .bool true, .bool true] : List Value).getD i undef) j else X j, rfl, HX.out, hT⟩
          refine Owed.next (n := 5) (o := ?orc5) ?horc5 ?hrc5 ?hsrc5
          case horc5 => rfl
          case hrc5 =>
            intro l act w1 hw hl hI K hK
            obtain ⟨X, rfl, hX, hT⟩ := hI
            have h4 : X 4 = .pointer (some ⟨rb, 0, none⟩) := hX 4 (hw 4 (by kernel_rfl)) (by kernel_rfl)
            have HX := Lib.hid (packsM 5 hX [4] (List.forall_mem_cons.2 ⟨hw 4 (by kernel_rfl), (fun _ h => nomatch h)⟩))
            clear hX
            have z := hT.2.lt
            rw [h4]
            clear h4
            rw [if_pos (by rfl)]
            go_wp2_with fail
            exact hK.out _ _ ⟨fun j => bif (5 :: [4]).contains j then (fun i => ([.pointer (some ⟨rb, 0, none⟩), .pointer (some ⟨rb, 0, none⟩), .pointer (some ⟨rb, 1, none⟩), .int .i64 n, .pointer (some ⟨rb, 0, none⟩), .pointer (some ⟨rb, 0, none⟩), .pointer (some ⟨rb, 0, none⟩), .string s, .int .i64 s.size, .bool true, .bool true, .pointer (some ⟨rb, 0, none⟩), .bool false, .bool true, .bool true] : List Value).getD i undef) j else X j, rfl, HX.out, hT⟩
          refine Owed.next (n := 6) (o := ?orc6) ?horc6 ?hrc6 ?hsrc6
          case horc6 => rfl
          case hrc6 =>
            intro l act w1 hw hl hI K hK
            obtain ⟨X, rfl, hX, hT⟩ := hI
            have h5 : X 5 = .pointer (some ⟨rb, 0, none⟩) := hX 5 (hw 5 (by kernel_rfl)) (by kernel_rfl)
            have HX := Lib.hid (packsM 6 hX [5] (List.forall_mem_cons.2 ⟨hw 5 (by kernel_rfl), (fun _ h => nomatch h)⟩))
            clear hX
            rw [h5]
            clear h5
            rw [if_pos (by rfl)]
            go_wp2_with fail
            exact hK.out _ _ ⟨fun j => bif (6 :: [5]).contains j then (fun i => ([.pointer (some ⟨rb, 0, none⟩), .pointer (some ⟨rb, 0, none⟩), .pointer (some ⟨rb, 1, none⟩), .int .i64 n, .pointer (some ⟨rb, 0, none⟩), .pointer (some ⟨rb, 0, none⟩), .pointer (some ⟨rb, 0, none⟩), .string s, .int .i64 s.size, .bool true, .bool true, .pointer (some ⟨rb, 0, none⟩), .bool false, .bool true, .bool true] : List Value).getD i undef) j else X j, rfl, HX.out, hT⟩
          refine Owed.next (n := 7) (o := ?orc7) ?horc7 ?hrc7 ?hsrc7
          case horc7 => rfl
          case hrc7 =>
            intro l act w1 hw hl hI K hK
            obtain ⟨X, rfl, hX, hT⟩ := hI
            have h6 : X 6 = .pointer (some ⟨rb, 0, none⟩) := hX 6 (hw 6 (by kernel_rfl)) (by kernel_rfl)
            have HX := Lib.hid (packsM 7 hX [6] (List.forall_mem_cons.2 ⟨hw 6 (by kernel_rfl), (fun _ h => nomatch h)⟩))
            clear hX
            have c0 := hT.2.c0
            rw [h6]
            clear h6
            rw [if_pos (by rfl)]
            go_wp2_with fail
            exact hK.out _ _ ⟨fun j => bif (7 :: [6]).contains j then (fun i => ([.pointer (some ⟨rb, 0, none⟩), .pointer (some ⟨rb, 0, none⟩), .pointer (some ⟨rb, 1, none⟩), .int .i64 n, .pointer (some ⟨rb, 0, none⟩), .pointer (some ⟨rb, 0, none⟩), .pointer (some ⟨rb, 0, none⟩), .string s, .int .i64 s.size, .bool true, .bool true, .pointer (some ⟨rb, 0, none⟩), .bool false, .bool true, .bool true] : List Value).getD i undef) j else X j, rfl, HX.out, hT⟩
          refine Owed.next (n := 8) (o := ?orc8) ?horc8 ?hrc8 ?hsrc8
          case horc8 => rfl
          case hrc8 =>
            intro l act w1 hw hl hI K hK
            obtain ⟨X, rfl, hX, hT⟩ := hI
            have h7 : X 7 = .string s := hX 7 (hw 7 (by kernel_rfl)) (by kernel_rfl)
            have HX := Lib.hid (packsM 8 hX [7] (List.forall_mem_cons.2 ⟨hw 7 (by kernel_rfl), (fun _ h => nomatch h)⟩))
            clear hX
            rw [h7]
            clear h7
            rw [if_pos (by rfl)]
            go_wp2_with fail
            exact hK.out _ _ ⟨fun j => bif (8 :: [7]).contains j then (fun i => ([.pointer (some ⟨rb, 0, none⟩), .pointer (some ⟨rb, 0, none⟩), .pointer (some ⟨rb, 1, none⟩), .int .i64 n, .pointer (some ⟨rb, 0, none⟩), .pointer (some ⟨rb, 0, none⟩), .pointer (some ⟨rb, 0, none⟩), .string s, .int .i64 s.size, .bool true, .bool true, .pointer (some ⟨rb, 0, none⟩), .bool false, .bool true, .bool true] : List Value).getD i undef) j else X j, rfl, HX.out, hT⟩
          refine Owed.next (n := 9) (o := ?orc9) ?horc9 ?hrc9 ?hsrc9
          case horc9 => rfl
          case hrc9 =>
            intro l act w1 hw hl hI K hK
            obtain ⟨X, rfl, hX, hT⟩ := hI
            have h3 : X 3 = .int .i64 n := hX 3 (hw 3 (by kernel_rfl)) (by kernel_rfl)
            have h8 : X 8 = .int .i64 s.size := hX 8 (hw 8 (by kernel_rfl)) (by kernel_rfl)
            have HX := Lib.hid (packsM 9 hX [3, 8] (List.forall_mem_cons.2 ⟨hw 3 (by kernel_rfl), (List.forall_mem_cons.2 ⟨hw 8 (by kernel_rfl), (fun _ h => nomatch h)⟩)⟩))
            clear hX
            have hn2 := hn2.out
            rw [h3, h8]
            clear h3 h8
            rw [if_pos (by rfl)]
            go_wp2_with fail
            exact hK.out _ _ ⟨fun j => bif (9 :: [3, 8]).contains j then (fun i => ([.pointer (some ⟨rb, 0, none⟩), .pointer (some ⟨rb, 0, none⟩), .pointer (some ⟨rb, 1, none⟩), .int .i64 n, .pointer (some ⟨rb, 0, none⟩), .pointer (some ⟨rb, 0, none⟩), .pointer (some ⟨rb, 0, none⟩), .string s, .int .i64 s.size, .bool true, .bool true, .pointer (some ⟨rb, 0, none⟩), .bool false, .bool true, .bool true] : List Value).getD i undef) j else X j, rfl, HX.out, hT⟩
          refine Owed.next (n := 10) (o := ?orc10) ?horc10 ?hrc10 ?hsrc10
          case horc10 => rfl
          case hrc10 =>
            intro l act w1 hw hl hI K hK
            obtain ⟨X, rfl, hX, hT⟩ := hI
            have h9 : X 9 = .bool true := hX 9 (hw 9 (by kernel_rfl)) (by kernel_rfl)
            have HX := Lib.hid (packsM 10 hX [9] (List.forall_mem_cons.2 ⟨hw 9 (by kernel_rfl), (fun _ h => nomatch h)⟩))
            clear hX
            rw [h9]
            clear h9
            rw [if_pos (by rfl)]
            go_wp2_with fail
            exact hK.out _ _ ⟨fun j => bif (10 :: [9]).contains j then (fun i => ([.pointer (some ⟨rb, 0, none⟩), .pointer (some ⟨rb, 0, none⟩), .pointer (some ⟨rb, 1, none⟩), .int .i64 n, .pointer (some ⟨rb, 0, none⟩), .pointer (some ⟨rb, 0, none⟩), .pointer (some ⟨rb, 0, none⟩), .string s, .int .i64 s.size, .bool true, .bool true, .pointer (some ⟨rb, 0, none⟩), .bool false, .bool true, .bool true] : List Value).getD i undef) j else X j, rfl, HX.out, hT⟩
          refine Owed.next (n := 11) (o := ?orc11) ?horc11 ?hrc11 ?hsrc11
          case horc11 => rfl
          case hrc11 =>
            intro l act w1 hw hl hI K hK
            obtain ⟨X, rfl, hX, hT⟩ := hI
            have h10 : X 10 = .bool true := hX 10 (hw 10 (by kernel_rfl)) (by kernel_rfl)
            have HX := Lib.hid (packsM 11 hX [10] (List.forall_mem_cons.2 ⟨hw 10 (by kernel_rfl), (fun _ h => nomatch h)⟩))
            clear hX
            rw [h10]
            clear h10
            rw [if_pos (by rfl)]
            go_wp2_with fail
            exact hK.out _ _ ⟨fun j => bif (11 :: [10]).contains j then (fun i => ([.pointer (some ⟨rb, 0, none⟩), .pointer (some ⟨rb, 0, none⟩), .pointer (some ⟨rb, 1, none⟩), .int .i64 n, .pointer (some ⟨rb, 0, none⟩), .pointer (some ⟨rb, 0, none⟩), .pointer (some ⟨rb, 0, none⟩), .string s, .int .i64 s.size, .bool true, .bool true, .pointer (some ⟨rb, 0, none⟩), .bool false, .bool true, .bool true] : List Value).getD i undef) j else X j, rfl, HX.out, hT⟩
          refine Owed.next (n := 12) (o := ?orc12) ?horc12 ?hrc12 ?hsrc12
          case horc12 => rfl
          case hrc12 =>
            intro l act w1 hw hl hI K hK
            obtain ⟨X, rfl, hX, hT⟩ := hI
            have h10 : X 10 = .bool true := hX 10 (hw 10 (by kernel_rfl)) (by kernel_rfl)
            have h11 : X 11 = .pointer (some ⟨rb, 0, none⟩) := hX 11 (hw 11 (by kernel_rfl)) (by kernel_rfl)
            have HX := Lib.hid (packsM 12 hX [10, 11] (List.forall_mem_cons.2 ⟨hw 10 (by kernel_rfl), (List.forall_mem_cons.2 ⟨hw 11 (by kernel_rfl), (fun _ h => nomatch h)⟩)⟩))
            clear hX
            rw [h10, h11]
            clear h10 h11
            rw [if_pos (by rfl)]
            go_wp2_with fail
            refine (hA.out _ hT.2).mono ?_
            rintro _ w2 ⟨rfl, hk⟩
            exact hK.out _ _ ⟨fun j => bif (12 :: [10, 11]).contains j then (fun i => ([.pointer (some ⟨rb, 0, none⟩), .pointer (some ⟨rb, 0, none⟩), .pointer (some ⟨rb, 1, none⟩), .int .i64 n, .pointer (some ⟨rb, 0, none⟩), .pointer (some ⟨rb, 0, none⟩), .pointer (some ⟨rb, 0, none⟩), .string s, .int .i64 s.size, .bool true, .bool true, .pointer (some ⟨rb, 0, none⟩), .bool false, .bool true, .bool true] : List Value).getD i undef) j else X j, rfl, HX.out, hT.trans hk⟩
          refine Owed.next (n := 13) (o := ?orc13) ?horc13 ?hrc13 ?hsrc13
          case horc13 => rfl
          case hrc13 =>
            intro l act w1 hw hl hI K hK
            obtain ⟨X, rfl, hX, hT⟩ := hI
            have h10 : X 10 = .bool true := hX 10 (hw 10 (by kernel_rfl)) (by kernel_rfl)
            have h12 : X 12 = .bool false := hX 12 (hw 12 (by kernel_rfl)) (by kernel_rfl)
            have HX := Lib.hid (packsM 13 hX [10, 12] (List.forall_mem_cons.2 ⟨hw 10 (by kernel_rfl), (List.forall_mem_cons.2 ⟨hw 12 (by kernel_rfl), (fun _ h => nomatch h)⟩)⟩))
            clear hX
            rw [h10, h12]
            clear h10 h12
            rw [if_pos (by rfl)]
            go_wp2_with fail
            exact hK.out _ _ ⟨fun j => bif (13 :: [10, 12]).contains j then (fun i => ([.pointer (some ⟨rb, 0, none⟩), .pointer (some ⟨rb, 0, none⟩), .pointer (some ⟨rb, 1, none⟩), .int .i64 n, .pointer (some ⟨rb, 0, none⟩), .pointer (some ⟨rb, 0, none⟩), .pointer (some ⟨rb, 0, none⟩), .string s, .int .i64 s.size, .bool true, .bool true, .pointer (some ⟨rb, 0, none⟩), .bool false, .bool true, .bool true] : List Value).getD i undef) j else X j, rfl, HX.out, hT⟩
          refine Owed.next (n := 14) (o := ?orc14) ?horc14 ?hrc14 ?hsrc14
          case horc14 => rfl
          case hrc14 =>
            intro l act w1 hw hl hI K hK
            obtain ⟨X, rfl, hX, hT⟩ := hI
            have h10 : X 10 = .bool true := hX 10 (hw 10 (by kernel_rfl)) (by kernel_rfl)
            have h13 : X 13 = .bool true := hX 13 (hw 13 (by kernel_rfl)) (by kernel_rfl)
            have HX := Lib.hid (packsM 14 hX [10, 13] (List.forall_mem_cons.2 ⟨hw 10 (by kernel_rfl), (List.forall_mem_cons.2 ⟨hw 13 (by kernel_rfl), (fun _ h => nomatch h)⟩)⟩))
            clear hX
            rw [h10, h13]
            clear h10 h13
            rw [if_pos (by rfl)]
            go_wp2_with fail
            exact hK.out _ _ ⟨fun j => bif (14 :: [10, 13]).contains j then (fun i => ([.pointer (some ⟨rb, 0, none⟩), .pointer (some ⟨rb, 0, none⟩), .pointer (some ⟨rb, 1, none⟩), .int .i64 n, .pointer (some ⟨rb, 0, none⟩), .pointer (some ⟨rb, 0, none⟩), .pointer (some ⟨rb, 0, none⟩), .string s, .int .i64 s.size, .bool true, .bool true, .pointer (some ⟨rb, 0, none⟩), .bool false, .bool true, .bool true] : List Value).getD i undef) j else X j, rfl, HX.out, hT⟩
          exact Owed.last rfl
        case finrc =>
          intro l act w1 hl hI
          obtain ⟨X, rfl, hX, hT⟩ := hI
          have h0 : X 0 = .pointer (some ⟨rb, 0, none⟩) := hX 0 (hl 0 (by kernel_rfl)) (by kernel_rfl)
          have h1 : X 1 = .pointer (some ⟨rb, 0, none⟩) := hX 1 (hl 1 (by kernel_rfl)) (by kernel_rfl)
          have h2 : X 2 = .pointer (some ⟨rb, 1, none⟩) := hX 2 (hl 2 (by kernel_rfl)) (by kernel_rfl)
          have h3 : X 3 = .int .i64 n := hX 3 (hl 3 (by kernel_rfl)) (by kernel_rfl)
          have h4 : X 4 = .pointer (some ⟨rb, 0, none⟩) := hX 4 (hl 4 (by kernel_rfl)) (by kernel_rfl)
          have h5 : X 5 = .pointer (some ⟨rb, 0, none⟩) := hX 5 (hl 5 (by kernel_rfl)) (by kernel_rfl)
          have h6 : X 6 = .pointer (some ⟨rb, 0, none⟩) := hX 6 (hl 6 (by kernel_rfl)) (by kernel_rfl)
          have h7 : X 7 = .string s := hX 7 (hl 7 (by kernel_rfl)) (by kernel_rfl)
          have h8 : X 8 = .int .i64 s.size := hX 8 (hl 8 (by kernel_rfl)) (by kernel_rfl)
          have h9 : X 9 = .bool true := hX 9 (hl 9 (by kernel_rfl)) (by kernel_rfl)
          have h10 : X 10 = .bool true := hX 10 (hl 10 (by kernel_rfl)) (by kernel_rfl)
          have h11 : X 11 = .pointer (some ⟨rb, 0, none⟩) := hX 11 (hl 11 (by kernel_rfl)) (by kernel_rfl)
          have h12 : X 12 = .bool false := hX 12 (hl 12 (by kernel_rfl)) (by kernel_rfl)
          have h13 : X 13 = .bool true := hX 13 (hl 13 (by kernel_rfl)) (by kernel_rfl)
          have h14 : X 14 = .bool true := hX 14 (hl 14 (by kernel_rfl)) (by kernel_rfl)
          rw [h0, h1, h2, h3, h4, h5, h6, h7, h8, h9, h10, h11, h12, h13, h14]
          clear h0 h1 h2 h3 h4 h5 h6 h7 h8 h9 h10 h11 h12 h13 h14 hX
          have hT : Gk rb s (s.size - (c :: r).length) wo w1 := by rw [HNN.out]; exact hT
          have HK1 : Hid (GK rb s (c :: r) wA w1) := Lib.hid (.of HK.out.2.1 (HK.out.gk.trans hT))
          have HT1 := Lib.hid (HT.out.keep hT.1 (fun b hb => by cases hb; omega))
          clear hT hl X hG
          have s1 := HK1.out.1.size
          have hat : s.size - atR rb wo = (c :: r).length := by
            rw [HK.out.2.2.at]; have := HK.out.2.1.len; omega
          clear HT HK
          cases hth : thingF ch (c :: r) with
          | error t =>
            have hr : Except.error t = R := by rw [← HC.out, thgs, if_neg hc, hth]
            subst hr
            rw [hth] at hTHq
            clear HC hk hc hth
            go_wp2_with fail
            refine (hTHq.out _ HK1.out.2).mono ?_
            rintro _ w5 ⟨rfl, h5⟩
            have H5 : Hid (GK rb s t w w5) := Lib.hid ((HU.out.trans HK1.out).trans h5)
            clear h5
            unfold boom
            go_wp2
            exact ⟨rfl, rfl, H5.out⟩
          | ok v =>
            obtain ⟨t, r'⟩ := v
            have HC2 : Hid (thgs ch k (ts ++ [t]) r' = R) := Lib.hid (by rw [← HC.out, thgs, if_neg hc, hth])
            have hlt := thingF_lt HON.out hth
            rw [hth] at hTHq
            clear HC hc hth
            go_wp2_with fail
            refine (hTHq.out _ HK1.out.2).mono ?_
            rintro _ w5 ⟨⟨v, rfl, hv⟩, h5⟩
            obtain ⟨k5, u5', p5, n5, c5, rfl⟩ := hv.form2
            have HV := Lib.hid (show RV (fun b => w1.heap.size ≤ b ∧ b < w5.heap.size) w5 t (.agg (nodeC k5 u5' (.slice p5 n5 c5))) from hv)
            have H5 := Lib.hid h5
            have HT5 := Lib.hid (HT1.out.keep h5.1 (fun b hb => by cases hb; omega))
            have s5 := h5.1.size
            have hlo1 := Lib.hid fun g (hg : u3.ownBlock = some g) => (by obtain ⟨xs, _, _, _, h4⟩ := HT1.out; exact (World.ownsRow.lt h4 g hg).2 : g < w1.heap.size)
            clear hv h5
            obtain ⟨xs, x1, x2, x3, x4⟩ := HT5.out
            have X3 := Lib.hid x3
            have X4 := Lib.hid (World.ownsRow.alloc x4 (.cells #[.int .i64 k5, .int .u64 (u5' 0), .int .u64 (u5' 1), .int .u64 (u5' 2), .int .u64 (u5' 3), .slice p5 n5 c5] 27))
            have hc0 : ∀ j u, (nodeC k5 u5' (.slice p5 n5 c5)).toList[j]? = some u → (w5.alloc (.cells #[.int .i64 k5, .int .u64 (u5' 0), .int .u64 (u5' 1), .int .u64 (u5' 2), .int .u64 (u5' 3), .slice p5 n5 c5] 27)).cell? ((⟨w5.heap.size, 0, none⟩ : Addr).add j) = some u := fun j u hj => by
              rw [Addr.add_mid, cell_of_row _ w5.heap.size (0 + j) _ 27 (0, 0) (heap_alloc_last w5 _), Nat.zero_add]
              rw [Array.getElem?_toList] at hj; exact hj
            have HC0 := Lib.hid hc0
            have hlen2 : ts.length ≤ 1000 := by omega
            clear hc0 x3 x4
            go_wp2_with (at_builtin; refine wpList_append_own_at _ rfl (.tmp 19) (.tmp 22) 25 rfl (b2 + 1) 27 i0 (.agg (nodeC 0 u0 (.slice none 0 0))) 6 64 Tryd.underlying25 hi hz0 hz1 hz2 rfl (by decide) u3 ts.length (flat xs) rfl ?c0 ⟨w5.heap.size, 0, none⟩ 1 1 (nodeC k5 u5' (.slice p5 n5 c5)).toList rfl rfl ?c1 ?c2 ?c3 ?c4 ?c5 ?_)
            case c0 => exact X4.out
            case c1 => exact HC0.out
            case c2 => exact fun u hu => (Array.all_eq_true_iff_forall_mem.1 (nodeC_one k5 u5' p5 n5 c5)) u (by simpa using hu)
            case c3 => unfold maxLen; omega
            case c4 => omega
            case c5 => simp; omega
            intro v' w7 hown7 hgrow7 _ hat7
            have hbase := fun g (hg : u3.ownBlock = some g) => (World.ownsRow.lt X4.out g hg).1
            have HTA : Hid (Th (b2 + 1) (ts ++ [t]) v' w7) := Lib.hid (Th.app (x := nodeC k5 u5' (.slice p5 n5 c5)) (xs := xs) rfl x1 x2 X3.out rfl (by omega) hlo1.out HV.out hown7 hgrow7 (by rw [show (w5.alloc (.cells #[.int .i64 k5, .int .u64 (u5' 0), .int .u64 (u5' 1), .int .u64 (u5' 2), .int .u64 (u5' 3), .slice p5 n5 c5] 27)).heap.size = w5.heap.size + 1 from by simp]; exact hat7))
            have HK7 : Hid (GK rb s r' wA w7) := Lib.hid (.of H5.out.2.1 (Gk.grown (((HK1.out.trans H5.out).gk).trans (Gk.up H5.out.2.2 ((Below.refl _ _).alloc (Nat.le_refl _) _))) hgrow7 (fun g hg => by have := hbase g hg; omega)))
            have hm7 : s.size - atR rb w7 < s.size - atR rb wo := by
              rw [hat, HK7.out.2.2.at]; have := HK7.out.2.1.len; omega
            clear hown7 hgrow7 hat7 hbase hlo1 X3 X4 x1 x2 HT5 HC0
            go_wp2_with fail
            go_roundw
            case rel => exact ⟨ts ++ [t], r', k, HC2, HTA, HK7, by omega, by simp; omega⟩
            case measure => exact hm7
end Go.Proofs.YtmjojahkbjlcdaaDoor
