/- Package relex. -/
import Derived.Test.YtemkppjdfjoipaaProg
import Derived.Test.YtemkppjdfjoipaaW36
import Derived.Test.YtemkppjdfjoipaaXr
import Derived.Test.YtemkppjdfjoipaaIo9
import Derived.Test.YtemkppjdfjoipaaW40
import Derived.Deep.SlicePairs
import Derived.Deep.Slices
import Derived.Laws.IdiomArrays
import Derived.OpenShut
import Derived.WideBlind
import Derived.Great.BuildSlice
import Derived.WalkKit
import Derived.Maps.OwnSet
import Derived.Maps.OwnOps
import Derived.Maps.Own
import Derived.DeepKeys5
import Derived.BigFrame
import Derived.WalkMore
import Derived.ScopeJumps
import Derived.StillTailTactics
import Derived.Stop.BytesEq
import Derived.WalkLawsBesides
import Derived.WalkSpells
import Derived.Outline
import Derived.Lib.Walk
import Derived.Lib.Hide
import Derived.Lib.Slices
import Derived.Lib.Strings
import Derived.RegionTactic
import Derived.LoopTactic
import Derived.Below
import Derived.IntWalk
import Derived.Deep.QuietTactic
import Derived.BigQuiet
import Derived.Deep.MidRow
import Derived.Maps.AppendAt
import Derived.Laws.Rows
import Derived.Laws.Tables
import Derived.Deep.WholeRow
import Derived.Deep.Cut
import Derived.Deep.CutRange
import Derived.Lib.SliceRun
import Derived.Laws.MakeOwn
import Derived.Deep.RegionLaw
import Derived.Deep.RegionLawGrows
import Derived.Deep.RegionHeld3
import Derived.RegionCalls
import Derived.Deep.RegionWith
import Derived.Deep.Light
import Derived.Laws.CopyOwn
import Derived.Laws.ResultCell
namespace Go.Proofs.Ytemkppjdfjoipaa.I1.X
set_option linter.unusedSimpArgs false
set_option linter.unusedVariables false
set_option maxRecDepth 100000
open Go.RowKit
/- New. -/
def newE (d : Df) (kl : List Int) (s : ByteArray) : Int := (rawsF d (ksL kl) kl.length s).2
def NewP (w : World) (d : Df) (kl : List Int) (s : ByteArray) (E : Int) (e : Ending) (w' : World) : Prop := Below w.heap.size w w' ∧ ((E ≠ 0 ∧ e = .returned (.tuple #[.pointer none, .int .i64 E])) ∨ (E = 0 ∧ ∃ b, e = .returned (.tuple #[.pointer (some ⟨b, 0, none⟩), .int .i64 0]) ∧ ScV w'.heap.size w' b d kl s))
theorem newE_ok {d : Df} {kl : List Int} {s : ByteArray} (hk : kl.length ≤ 1000000) (h : newE d kl s = 0) : (rawsF d (ksL kl) kl.length s).1 = scL d kl s ∧ Fine d kl s := by
  unfold newE rawsF at h
  unfold rawsF
  by_cases h0 : chkD d = 0
  · rw [if_neg (by simp [h0])] at h ⊢
    by_cases h1 : anyGe (kl.length : Nat) d.rl = true
    · rw [if_pos h1] at h; simp at h
    · rw [if_neg h1] at h ⊢
      by_cases h2 : 65536 < s.size
      · rw [if_pos h2] at h; simp at h
      · rw [if_neg h2]
        exact ⟨rfl, ⟨chk_may h0, anyGe_no (by simpa using h1), hk, by omega⟩⟩
  · rw [if_pos (by simpa using h0)] at h
    exact absurd h h0
theorem mks_sh {B : Nat} {w0 : World} {L : List It} {vs : List Value} {ms : List Mk} (h : MkS B w0 L vs ms) {j i : Nat} (hj : j < ms.length) (hi : i < ms.length) {m n : Mk} (hm : ms[j] = m) (hn : ms[i] = n) {u v : Value} (hu : vs[j]'(by rw [h.1]; exact hj) = u) (hv : vs[i]'(by rw [h.1]; exact hi) = v) :
    (∃ q f, shV m n u v = .slice q (ms[i]).cols.length f ∧ IV (Lt B) w0 (ms[i]).cols (.slice q (ms[i]).cols.length f)) ∨ rI (shV m n u v) (ms[i]).cols ∈ L := by
  subst hm hn hu hv
  unfold shV
  split
  · next e =>
    have := h.2 j (by rw [h.1]; exact hj) hj
    rw [e] at this; exact this
  · exact h.2 i (by rw [h.1]; exact hi) hi
theorem scan_lv {B n n3 n4 : Nat} {w0 w : World} {L : List P3} {x : Lx} {vs : List Value} {X : List It} {Y : It} {p1 p2 p3 p4 : Option Addr} {c1 c2 c3 c4 : Nat} (hn : L.length = n) (hm : x.marks.length = n + 1) (h3 : x.counts.length = n3) (h4 : x.toks.length = n4) (hk : MkS B w0 X vs x.marks)
    (hs : Sep B w0 w (.row (.slice p2 (n + 1) c2) 36 5 (n + 1) (mkL vs x.marks) :: Y :: .row (.slice p1 n c1) 38 3 n (rwL (L.map tR)) :: .row (.slice p3 n3 c3) 3 1 n3 (zi x.counts) :: .row (.slice p4 n4 c4) 40 3 n4 (tkL x.toks) :: X)) : LV w.heap.size w L x p1 p2 p3 p4 c1 c2 c3 c4 := by
  rw [← hm] at hs
  subst hn h3 h4
  have h := (hs.sub (L' := .row (.slice p2 x.marks.length c2) 36 5 x.marks.length (mkL vs x.marks) :: .row (.slice p1 L.length c1) 38 3 L.length (rwL (L.map tR)) :: .row (.slice p3 x.counts.length c3) 3 1 x.counts.length (zi x.counts) :: .row (.slice p4 x.toks.length c4) 40 3 x.toks.length (tkL x.toks) :: X) (.cons_cons _ (.cons _ (.refl _)))).swap
  have hx : XS B w0 true true true true (.slice p1 L.length c1) (.slice p2 x.marks.length c2) (.slice p3 x.counts.length c3) (.slice p4 x.toks.length c4) L vs x.marks x.counts x.toks := ⟨Fr.own h, Fr.own h.tl, Fr.own h.tl.tl, Fr.own h.tl.tl.tl⟩
  obtain ⟨p1', p2', p3', p4', c1', c2', c3', c4', e1, e2, e3, e4, hl⟩ := hx.lv hk h
  injection e1 with a1 _ a2
  injection e2 with b1 _ b2
  injection e3 with d1 _ d2
  injection e4 with f1 _ f2
  subst a1 a2 b1 b2 d1 d2 f1 f2
  exact hl
set_option maxHeartbeats 32000000 in
theorem new_any {N : Nat} {w : World} {d : Df} {ds : Array Value} {p q : Option Addr} {c f : Nat} {kl : List Int} {qr : Option Addr} {fr : Nat} (s : ByteArray) (hN : N ≤ w.heap.size) (hd : DC d ds p q c f) (hm : DM (Lt N) w d p q c f) (hk : KR (Lt N) w kl qr) (hkl : kl.length ≤ 1000000) (hnx : d.nx.length ≤ 1000000) (hrl : d.rl.length ≤ 1000000) (hrw : ∀ r ∈ d.nx, r.length ≤ 1000000) (hss : s.size ≤ 281474976710656) :
    Calls Try.prog 21 #[.slice qr kl.length fr, .agg ds, .string s] w (NewP w d kl s (newE d kl s)) := by
  have hz := zero28
  have HSZ := Lib.hid hd.sz
  have HOK := Lib.hid (@newE_ok d kl s hkl)
  have HLOW : Hid (∀ z, Below w.heap.size w z → DM (Lt N) z d p q c f ∧ KR (Lt N) z kl qr ∧ N ≤ z.heap.size) := Lib.hid fun z hz =>
    have hb : ∀ b, b < N → b < w.heap.size := fun b h => Nat.lt_of_lt_of_le h hN
    ⟨hm.up hz, hk.mono (D := Lt N) (E := Lt N) (fun b h => h) (fun b h _ => hz.block b (hb b h)), Nat.le_trans hN hz.size⟩
  have HRA : Hid (∀ z, Below w.heap.size w z → Calls Try.prog 46 #[.slice qr kl.length fr, .agg ds, .string s] z (RawsP z (rawsF d (ksL kl) kl.length s))) := Lib.hid fun z hz =>
    rawsof_any s hd (HLOW.out z hz).1 (HLOW.out z hz).2.1.kv (by omega) (by omega)
  have HNS : Hid (∀ z, Below w.heap.size w z → Calls Try.prog 48 #[.slice qr kl.length fr, .agg ds] z (NsP z d kl)) := Lib.hid fun z hz =>
    newscan_any (HLOW.out z hz).2.2 hd (HLOW.out z hz).1 (HLOW.out z hz).2.1 hkl hnx hrl hrw
  have HCL := Lib.hid fun z => clone49 s z (by omega)
  obtain ⟨RF, hRF⟩ : ∃ R, rawsF d (ksL kl) kl.length s = R := ⟨_, rfl⟩
  have hE : newE d kl s = RF.2 := by unfold newE; rw [hRF]
  rw [hRF] at HRA HOK
  rw [hE] at HOK ⊢
  clear hE hRF hd hm hk hrw
  obtain ⟨b4, hb4⟩ : ∃ b, w.heap.size = b := ⟨_, rfl⟩
  have S0 := Lib.hid ((Sep.start w).allocAt hb4 (.cells ds 61))
  have HB4 := Lib.hid hb4
  obtain ⟨P, EE⟩ := RF
  simp only [] at HRA HOK ⊢
  go_enter Try.func21, Try.ntmps21
  go_upto_region 1 with fail
  refine at_world (fun y => Sep w.heap.size w y [.box b4 (.cells ds 61 (0, 0))]) S0.out fun y hy => ?_
  have S1 := Lib.hid hy
  have hbx : Hid (BX y b4 ds) := Lib.hid hy.at.2
  have HR1 := Lib.hid (HRA.out y hy.bel)
  clear hy S0 hb4 HB4 HRA
  go_wp2_with (refine wpList_load_Dg _ rfl b4 ds rfl hbx.out HSZ.out rfl ?_)
  refine HR1.out.mono ?_
  rintro _ w1 ⟨v1, rfl, hr1, hb1⟩
  have S2 : Hid (Sep w.heap.size w w1 (.row v1 38 3 P.length (Go.Proofs.Ytemkppjdfjoipaa.rwL P) :: [.box b4 (.cells ds 61 (0, 0))])) := Lib.hid (S1.out.add hb1 hr1)
  clear hr1 hb1 S1 hbx HR1
  by_cases hE : EE = 0
  · subst hE
    obtain ⟨hP, HF⟩ := HOK.out rfl

    subst hP
    obtain ⟨L, hL⟩ : ∃ L, scL d kl s = L := ⟨_, rfl⟩
    obtain ⟨x, hx⟩ : ∃ x, scX d kl s = x := ⟨_, rfl⟩
    have hlen := HF.lens
    have hmks := HF.mks
    have hq := allQ_lx HF.may (ksL kl) (s := s) HF.sz
    have hsz := HF.sz
    rw [show lxM (pcA d (ksL kl) (bl s)) (bl s) = scX d kl s from rfl, show pcA d (ksL kl) (bl s) = scL d kl s from rfl, hx, hL] at hq
    have HX2 : Hid (∀ N w b bs p1 p2 p3 p4 c1 c2 c3 c4, b < N → N ≤ w.heap.size → SN N w bs d kl → LV N w L x p1 p2 p3 p4 c1 c2 c3 c4 → w.cell? ⟨b, 0, none⟩ = some (.pointer (some ⟨bs, 0, none⟩)) → w.cell? ⟨b, 1, none⟩ = some (.string s) → w.cell? ⟨b, 2, none⟩ = some (.slice p1 L.length c1) → w.cell? ⟨b, 3, none⟩ = some (.slice p2 x.marks.length c2) → w.cell? ⟨b, 4, none⟩ = some (.slice p3 x.counts.length c3) → w.cell? ⟨b, 5, none⟩ = some (.slice p4 x.toks.length c4) → ScV N w b d kl s) := Lib.hid (by
      intro N w b bs p1 p2 p3 p4 c1 c2 c3 c4 a1 a2 a3 a4 a5 a6 a7 a8 a9 a10
      refine ⟨bs, p1, p2, p3, p4, c1, c2, c3, c4, ⟨a1, a2, a3, ?_, a5, a6, ?_, ?_, ?_, ?_⟩⟩
      · rw [hL, hx]; exact a4
      · rw [hL]; exact a7
      · rw [hx]; exact a8
      · rw [hx]; exact a9
      · rw [hx]; exact a10)
    have l1 := hlen.l1
    have l2 := hlen.l2
    have hmay := hmks.1
    rw [hL] at S2 l1 l2
    rw [hx] at l2 hmay
    have HMAY := Lib.hid hmay
    rw [← rw_eq] at S2
    have hfa := (Fr.own (show Sep w.heap.size w w1 (.row v1 38 3 L.length (rwL (L.map tR)) :: _) from S2.out)).at_ (e := 38) S2.out
    obtain ⟨q1, k1, rfl, hle1, hnone1, hg1⟩ := hfa
    have hrwv : RW (fun b => b < w1.heap.size) w1 (L.map tR) (.slice q1 L.length k1) := by
      have e := rw_of (c := k1) hnone1 hg1
      rw [List.length_map] at e
      exact e
    have HAL : Hid (Calls Try.prog 9 #[.string s, .slice q1 L.length k1] w1 (AllP w1.heap.size w1 [] ((L.map tR, x), 0))) := Lib.hid (by
      have e := all_any (B := w1.heap.size) (D := fun b => b < w1.heap.size) (s := s) (lst := L.map tR) (p := q1) (c := k1) (XX := []) (by rw [List.length_map]; omega) (by omega) (fun b h => h) (by rw [List.length_map]; exact hrwv) (Sep.start w1)
      rw [hq, List.length_map] at e
      exact e)
    obtain ⟨n, hn⟩ : ∃ n, L.length = n := ⟨_, rfl⟩
    have HNL := Lib.hid hn
    have HML : Hid (x.marks.length = n + 1) := Lib.hid (by rw [l2, hn])
    rw [hn] at l1 S2 HAL ⊢
    have HHX := Lib.hid hx
    have HHL := Lib.hid hL
    clear hL hx hlen hmks hq hmay hg1 hrwv hn l2 HF HOK hnone1 hle1
    go_wp2_with fail
    refine HAL.out.mono ?_
    rintro _ w2 ⟨v1, v2, v3, v4, vs, rfl, hvl, hs2⟩
    simp only [] at hvl hs2
    have S3 := Lib.hid (S2.out.join hs2)
    clear hs2 S2 HAL
    obtain ⟨XX, hXX⟩ : ∃ X, colsI vs x.marks ++ [.row (.slice q1 n k1) 38 3 n (rwL (L.map tR)), .box b4 (.cells ds 61 (0, 0))] = X := ⟨_, rfl⟩
    have HBX : Hid (.box b4 (.cells ds 61 (0, 0)) ∈ XX) := Lib.hid (by rw [← hXX]; simp)
    have HMK : Hid (MkS w.heap.size w XX vs x.marks) := Lib.hid (by rw [← hXX]; exact colsI_mk hvl)
    have S4 : Hid (Sep w.heap.size w w2 (.row v2 36 5 (n + 1) (mkL vs x.marks) :: .row v1 38 3 n (rwL (L.map tR)) :: rI v3 x.counts :: rT v4 x.toks :: XX)) := Lib.hid (by
      have e := S3.out
      rw [rR, rM, List.length_map, HNL.out, HML.out] at e
      simp only [List.append_nil, List.cons_append, List.append_assoc] at e
      rw [show (colsI vs x.marks ++ (.row (.slice q1 n k1) 38 3 n (rwL (L.map tR)) :: [.box b4 (.cells ds 61 (0, 0))])) = XX from hXX] at e
      exact e.swap)
    clear S3 hXX
    obtain ⟨g, k2, rfl, hk2⟩ := row_own S4.out.at (by omega)
    obtain ⟨p1, k5, rfl⟩ := row_form S4.out.tl.at
    obtain ⟨p3, k3, rfl⟩ := row_form S4.out.tl.tl.at
    obtain ⟨p4, k4, rfl⟩ := row_form S4.out.tl.tl.tl.at
    obtain ⟨n3, hn3⟩ : ∃ n, x.counts.length = n := ⟨_, rfl⟩
    obtain ⟨n4, hn4⟩ : ∃ n, x.toks.length = n := ⟨_, rfl⟩
    have HN3 := Lib.hid hn3
    have HN4 := Lib.hid hn4
    rw [rI, rT, hn3, hn4] at S4
    rw [hn3, hn4]
    clear hn3 hn4 hvl
    obtain ⟨b10, hb10⟩ : ∃ b, w2.heap.size = b := ⟨_, rfl⟩
    have S5 := Lib.hid (S4.out.allocAt hb10 (.cells #[.slice p1 n k5, .slice (some ⟨g, 0, none⟩) (n + 1) k2, .slice p3 n3 k3, .slice p4 n4 k4] 28))
    clear S4
    go_upto_region 5 with fail
    refine at_world (fun y => Sep w.heap.size w y (bxL b10 #[.slice p1 n k5, .slice (some ⟨g, 0, none⟩) (n + 1) k2, .slice p3 n3 k3, .slice p4 n4 k4] :: .row (.slice (some ⟨g, 0, none⟩) (n + 1) k2) 36 5 (n + 1) (mkL vs x.marks) :: .row (.slice p1 n k5) 38 3 n (rwL (L.map tR)) :: .row (.slice p3 n3 k3) 3 1 n3 (zi x.counts) :: .row (.slice p4 n4 k4) 40 3 n4 (tkL x.toks) :: XX)) S5.out fun y hy => ?_
    have S6 := Lib.hid hy.swap
    clear S5 hy hb10
    go_wp2_with fail
    go_loopw [12, 31] (fun _ i wr => ∃ (j : Nat) (vs : List Value), i = .int .i64 (j : Nat) ∧ j ≤ n ∧ Hid (MkS w.heap.size w XX vs x.marks) ∧ Hid (Sep w.heap.size w wr (.row (.slice (some ⟨g, 0, none⟩) (n + 1) k2) 36 5 (n + 1) (mkL vs x.marks) :: bxL b10 #[.slice p1 n k5, .slice (some ⟨g, 0, none⟩) (n + 1) k2, .slice p3 n3 k3, .slice p4 n4 k4] :: .row (.slice p1 n k5) 38 3 n (rwL (L.map tR)) :: .row (.slice p3 n3 k3) 3 1 n3 (zi x.counts) :: .row (.slice p4 n4 k4) 40 3 n4 (tkL x.toks) :: XX))) (fun _ i _ => n - (intOf i).toNat)
    case atStart => exact ⟨0, vs, rfl, by omega, HMK, S6⟩
    case round =>
      clear S6 HMK
      obtain ⟨j, vs, rfl, hj, HMK, HS⟩ := hrel
      obtain ⟨wo, rfl⟩ : ∃ wo : World, wo = wr := ⟨_, rfl⟩
      by_cases hlt : j < n
      · have hml := HML.out
        have hms := HMK.out
        obtain ⟨q7, f7, ev7, iv7⟩ := hms.iv (HS.out.sub (L' := XX) (.cons _ (.cons _ (.cons _ (.cons _ (.cons _ (.refl _))))))) (i := j) (by have := hms.1; omega) (by omega)
        obtain ⟨q8, f8, ev8, iv8⟩ := hms.iv (HS.out.sub (L' := XX) (.cons _ (.cons _ (.cons _ (.cons _ (.cons _ (.refl _))))))) (i := j + 1) (by have := hms.1; omega) (by omega)
        obtain ⟨m7, hm7⟩ : ∃ m, x.marks[j] = m := ⟨_, rfl⟩
        obtain ⟨m8, hm8⟩ : ∃ m, x.marks[j + 1] = m := ⟨_, rfl⟩
        rw [hm7] at ev7 iv7
        rw [hm8] at ev8 iv8
        have HSET := Lib.hid (mks_sh hms (by omega) (by omega) hm7 hm8 ev7 ev8)
        obtain ⟨q9, f9, hsv⟩ := shV_slice m7 m8 q7 q8 f7 f8
        rw [hsv] at HSET
        have hlm : ∀ m ∈ x.marks, m.cols.length ≤ 4097 := fun m h => (HMAY.out m h).len
        have hc7 := hlm m7 (by rw [← hm7]; exact List.getElem_mem _)
        have HSH : Hid (∀ z, Below wo.heap.size wo z → Calls Try.prog 47 #[.agg #[.slice q7 m7.cols.length f7, .int .i64 m7.opn, .int .i64 m7.col, .bool m7.fresh, .int .i64 m7.lead], .agg #[.slice q8 m8.cols.length f8, .int .i64 m8.opn, .int .i64 m8.col, .bool m8.fresh, .int .i64 m8.lead]] z fun e w' => e = .returned (.agg #[.slice q9 m8.cols.length f9, .int .i64 m8.opn, .int .i64 m8.col, .bool m8.fresh, .int .i64 m8.lead]) ∧ Below z.heap.size z w') := Lib.hid fun z hz => by
          have e := sharing_any (D := fun b => b < wo.heap.size) (E := fun b => b < wo.heap.size) (w := z) (m := m7) (n := m8) (by omega) (fun b h => Nat.lt_of_lt_of_le h hz.size) (fun b h => Nat.lt_of_lt_of_le h hz.size) (iv7.mono (fun b h => h) (fun b h _ => hz.block b h)) (iv8.mono (fun b h => h) (fun b h _ => hz.block b h))
          rw [hsv] at e
          exact e
        obtain ⟨c70, c71, c72, c73, c74, -⟩ := mk_cells hms.1 HS.out (j := j) (by omega) ev7 hm7
        have HP8 : Hid (∀ z Y, Sep w.heap.size w z (.row (.slice (some ⟨g, 0, none⟩) (n + 1) k2) 36 5 (n + 1) (mkL vs x.marks) :: Y) → _) := Lib.hid fun z Y hz => And.intro (mk_cells hms.1 hz (j := j + 1) (by omega) ev8 hm8) (mk_put hms.1 hz (j := j + 1) (by omega) q9 m8.cols.length f9 hm8)
        have HMK2 := Lib.hid (hms.set (j := j + 1) (v := .slice q9 m8.cols.length f9) (fun _ => HSET.out))
        obtain ⟨j1, hj1⟩ : ∃ j', j + 1 = j' := ⟨_, rfl⟩
        rw [hj1] at HP8 HMK2
        have hh := HS.out.tl.boxAt 1
        have c8 := (HP8.out wo _ HS.out).1
        obtain ⟨c80, c81, c82, c83, c84, -⟩ := c8
        have jI : (j : Int) < (n : Int) := by omega
        have jI1 : (j : Int) < ((n + 1 : Nat) : Int) := by omega
        have jI2 : (j1 : Int) < ((n + 1 : Nat) : Int) := by omega
        have jI3 : (j : Int) < (n : Int) + 1 := by omega
        have jI4 : (j1 : Int) < (n : Int) + 1 := by omega
        have j0 : ¬ (j : Int) < 0 := by omega
        have j10 : ¬ (j1 : Int) < 0 := by omega
        have hw1 : IntKind.i64.wrap ((j : Int) + 1) = (j1 : Int) := by rw [IntWalk.i64_in _ (by omega)]; omega
        have HBD : Hid (Below wo.heap.size wo wo.drew) := Lib.hid (below_drewN (Below.refl _ _) 1)
        have SD := Lib.hid HS.out.drew
        have hlt1 := hlt
        have HJ1 := Lib.hid hj1
        clear ev7 ev8 iv7 iv8 hm7 hm8 hml hms HSET hsv hlm hc7 HS hj1 HMK
        obtain ⟨l7, hl7⟩ : ∃ l, m7.cols.length = l := ⟨_, rfl⟩
        obtain ⟨l8, hl8⟩ : ∃ l, m8.cols.length = l := ⟨_, rfl⟩
        rw [hl7] at HSH c70
        rw [hl8] at HSH c80 HP8 HMK2
        clear hl7 hl8
        go_upto_region 8 with fail
        go_region_law (go_simp; go_at_call 47; refine (HSH.out _ HBD.out).mono ?_; rintro _ y5 ⟨rfl, hb5⟩; have S7 := Lib.hid (SD.out.up hb5); have e9 : y5.cell? ⟨b10, 1, none⟩ = some (.slice (some ⟨g, 0, none⟩) (n + 1) k2) := S7.out.tl.boxAt 1; obtain ⟨⟨e0, e1, e2, e3, e4, z0, z1, z2, z3, z4⟩, hput⟩ := HP8.out _ _ S7.out; have HPUT := Lib.hid hput; clear hput hb5)
        all_goals
          clear e0 e1 e2 e3 e4 z0 z1 z2 z3 z4 e9 HP8 HSH S7 SD HBD c70 c71 c72 c73 c74 c80 c81 c82 c83 c84 hh
          go_wp2_with fail
          go_roundw
          case rel => exact ⟨j1, _, by go_num, by have := HJ1.out; omega, HMK2, HPUT⟩
          case measure => have := HJ1.out; simp [intOf]; omega
      · obtain rfl : j = n := by omega
        have hjI : ¬ (j : Int) < (j : Int) := by omega
        go_upto_region 10 with fail
        have HSW := Lib.hid HS.out.drew
        have HH4 : Hid (wo.drew.heap[b4]? = some (.cells ds 61)) := Lib.hid (HSW.out.li _ (List.mem_cons_of_mem _ (List.mem_cons_of_mem _ (List.mem_cons_of_mem _ (List.mem_cons_of_mem _ (List.mem_cons_of_mem _ HBX.out)))))).2
        have HH10 : Hid (wo.drew.heap[b10]? = some (.cells #[.slice p1 j k5, .slice (some ⟨g, 0, none⟩) (j + 1) k2, .slice p3 n3 k3, .slice p4 n4 k4] 28)) := Lib.hid HSW.out.tl.at.2
        have HB0 := Lib.hid HSW.out.bel
        have HL4 : Hid (b4 < wo.drew.heap.size ∧ b10 < wo.drew.heap.size) := Lib.hid ⟨(Array.getElem?_eq_some_iff.1 HH4.out).1, (Array.getElem?_eq_some_iff.1 HH10.out).1⟩
        refine wp_region_held_drew (S := fun z => z.heap[b4]? = some (.cells ds 61) ∧ z.heap[b10]? = some (.cells #[.slice p1 j k5, .slice (some ⟨g, 0, none⟩) (j + 1) k2, .slice p3 n3 k3, .slice p4 n4 k4] 28)) (by kernel_rfl) ⟨HH4.out, HH10.out⟩ (fun hHeld => ?_)
        refine wpAnyH_take (i := 0) (v := .slice qr kl.length fr) rfl (by kernel_rfl) (by kernel_rfl) (by kernel_rfl) (fun _ _ _ h => h) (Or.inl ⟨by rfl, by (intro w hSw; (try dsimp only at hSw); go_simp)⟩) hHeld ?_
        (try simp only [Act.put, List.getElem_toArray, List.getElem_cons_zero, List.getElem_cons_succ, List.setIfInBounds_toArray, List.set_cons_zero, List.set_cons_succ])
        refine wpAnyH_take (i := 1) (v := .agg ds) rfl (by kernel_rfl) (by kernel_rfl) (by kernel_rfl) (fun _ _ _ h => h) (yieldsIf_load_D (by rfl) (.tmp 4) rfl b4 rfl (fun v hv => hv.1) HSZ.out) hHeld ?_
        (try simp only [Act.put, List.getElem_toArray, List.getElem_cons_zero, List.getElem_cons_succ, List.setIfInBounds_toArray, List.set_cons_zero, List.set_cons_succ])
        refine wpAnyH_take (i := 3) (v := .string s) rfl (by kernel_rfl) (by kernel_rfl) (by kernel_rfl) (fun _ _ _ h => h) (Or.inl ⟨by rfl, by (intro w hSw; (try dsimp only at hSw); go_simp)⟩) hHeld ?_
        (try simp only [Act.put, List.getElem_toArray, List.getElem_cons_zero, List.getElem_cons_succ, List.setIfInBounds_toArray, List.set_cons_zero, List.set_cons_succ])
        refine wpAnyH_take (i := 5) (v := .agg #[.slice p1 j k5, .slice (some ⟨g, 0, none⟩) (j + 1) k2, .slice p3 n3 k3, .slice p4 n4 k4]) rfl (by kernel_rfl) (by kernel_rfl) (by kernel_rfl) (fun _ _ _ h => h) (Or.inl ⟨by rfl, (by intro w hSw; (try dsimp only at hSw); have c0 := cell_of_row w b10 0 _ 28 (0, 0) hSw.2; have c1 := cell_of_row w b10 1 _ 28 (0, 0) hSw.2; have c2 := cell_of_row w b10 2 _ 28 (0, 0) hSw.2; have c3 := cell_of_row w b10 3 _ 28 (0, 0) hSw.2; simp only [List.getElem?_toArray, List.getElem?_cons_zero, List.getElem?_cons_succ] at c0 c1 c2 c3; go_simp)⟩) hHeld ?_
        (try simp only [Act.put, List.getElem_toArray, List.getElem_cons_zero, List.getElem_cons_succ, List.setIfInBounds_toArray, List.set_cons_zero, List.set_cons_succ])
        refine wpAnyH_ready (rs := [2]) (by kernel_rfl) (by simp) ?_
        refine AllReadyH.cons rfl (fun K hK => ?_) (AllReadyH.nil)
        rw [if_pos (by rfl)]
        go_wp2_with fail
        refine (HNS.out _ HB0.out).mono ?_
        rintro _ w5 ⟨bs, rfl, hsn, hb⟩
        have T1 := Lib.hid (HSW.out.up hb)
        have HSN := Lib.hid hsn
        have HH5 : Hid (w5.heap[b4]? = some (.cells ds 61) ∧ w5.heap[b10]? = some (.cells #[.slice p1 j k5, .slice (some ⟨g, 0, none⟩) (j + 1) k2, .slice p3 n3 k3, .slice p4 n4 k4] 28) ∧ b4 < w5.heap.size ∧ b10 < w5.heap.size) := Lib.hid ⟨(hb.block b4 HL4.out.1).trans HH4.out, (hb.block b10 HL4.out.2).trans HH10.out, Nat.lt_of_lt_of_le HL4.out.1 hb.size, Nat.lt_of_lt_of_le HL4.out.2 hb.size⟩
        refine hK.out _ _ (⟨(hb.block b4 HL4.out.1).trans HH4.out, (hb.block b10 HL4.out.2).trans HH10.out⟩) (fun hHeld2 => ?_)
        clear hHeld hK
        have hHeld := hHeld2
        clear hHeld2
        (try simp only [Act.put, List.getElem_toArray, List.getElem_cons_zero, List.getElem_cons_succ, List.setIfInBounds_toArray, List.set_cons_zero, List.set_cons_succ])
        clear hsn hb HSW HH4 HH10 HL4 HB0
        refine wpAnyH_ready (rs := [4]) (by kernel_rfl) (by simp) ?_
        refine AllReadyH.cons rfl (fun K hK => ?_) (AllReadyH.nil)
        rw [if_pos (by rfl)]
        go_wp2_with fail
        refine (HCL.out _).mono ?_
        rintro _ w6 ⟨rfl, hb⟩
        have T2 := Lib.hid (T1.out.up hb)
        have HSN2 := Lib.hid (HSN.out.up hb.size (Nat.le_refl _) hb)
        refine hK.out _ _ (⟨(hb.block b4 HH5.out.2.2.1).trans HH5.out.1, (hb.block b10 HH5.out.2.2.2).trans HH5.out.2.1⟩) (fun hHeld2 => ?_)
        clear hHeld hK
        have hHeld := hHeld2
        clear hHeld2
        (try simp only [Act.put, List.getElem_toArray, List.getElem_cons_zero, List.getElem_cons_succ, List.setIfInBounds_toArray, List.set_cons_zero, List.set_cons_succ])
        clear hb HH5 T1
        have hb49 := built49 (some ⟨bs, 0, none⟩) p1 (some ⟨g, 0, none⟩) p3 p4 j (j + 1) n3 n4 k5 k2 k3 k4 s
        refine wpAnyH_ready (rs := [6]) (by kernel_rfl) (by simp) ?_
        refine AllReadyH.cons rfl (fun K hK => ?_) (AllReadyH.nil)
        rw [if_pos (by rfl)]
        refine wpK_build 49 _ rfl [(0, .pointer (some ⟨bs, 0, none⟩)), (1, .string s), (2, .agg #[.slice p1 j k5, .slice (some ⟨g, 0, none⟩) (j + 1) k2, .slice p3 n3 k3, .slice p4 n4 k4])] (by simp only [List.map_toArray, List.map_cons, List.map_nil]; rfl) hb49 ?_
        refine hK.out _ _ (hHeld) (fun hHeld2 => ?_)
        clear hHeld hK
        have hHeld := hHeld2
        clear hHeld2
        (try simp only [Act.put, List.getElem_toArray, List.getElem_cons_zero, List.getElem_cons_succ, List.setIfInBounds_toArray, List.set_cons_zero, List.set_cons_succ])
        have T3 := Lib.hid (T2.out.alloc (.cells #[.pointer (some ⟨bs, 0, none⟩), .string s, .slice p1 j k5, .slice (some ⟨g, 0, none⟩) (j + 1) k2, .slice p3 n3 k3, .slice p4 n4 k4] 49))
        refine wpAnyH_ready (rs := [7]) (by kernel_rfl) (by simp) ?_
        refine AllReadyH.cons rfl (fun K hK => ?_) (AllReadyH.nil)
        rw [if_pos (by rfl)]
        go_wp2_with fail
        refine hK.out _ _ (⟨(T3.out.li _ (List.mem_cons_of_mem _ (List.mem_cons_of_mem _ (List.mem_cons_of_mem _ (List.mem_cons_of_mem _ (List.mem_cons_of_mem _ (List.mem_cons_of_mem _ HBX.out))))))).2, T3.out.tl.tl.at.2⟩) (fun hHeld2 => ?_)
        clear hHeld hK
        have hHeld := hHeld2
        clear hHeld2
        (try simp only [Act.put, List.getElem_toArray, List.getElem_cons_zero, List.getElem_cons_succ, List.setIfInBounds_toArray, List.set_cons_zero, List.set_cons_succ])
        have HSN3 : Hid (SN (w6.alloc (.cells #[.pointer (some ⟨bs, 0, none⟩), .string s, .slice p1 j k5, .slice (some ⟨g, 0, none⟩) (j + 1) k2, .slice p3 n3 k3, .slice p4 n4 k4] 49)).heap.size (w6.alloc (.cells #[.pointer (some ⟨bs, 0, none⟩), .string s, .slice p1 j k5, .slice (some ⟨g, 0, none⟩) (j + 1) k2, .slice p3 n3 k3, .slice p4 n4 k4] 49)) bs d kl) := Lib.hid (HSN2.out.up (by simp) (Nat.le_refl _) ((Below.refl w6.heap.size w6).alloc (Nat.le_refl _) _))
        obtain ⟨bS, hbS⟩ : ∃ b, w6.heap.size = b := ⟨_, rfl⟩
        rw [hbS] at T3 ⊢
        clear hbS T2 HSN2
        refine wpAnyH_take (i := 8) (v := .pointer (some ⟨bS, 0, none⟩)) rfl (by kernel_rfl) (by kernel_rfl) (by kernel_rfl) (fun _ _ _ h => h) (Or.inl ⟨by rfl, (fun w _ => by rfl)⟩) hHeld ?_
        (try simp only [Act.put, List.getElem_toArray, List.getElem_cons_zero, List.getElem_cons_succ, List.setIfInBounds_toArray, List.set_cons_zero, List.set_cons_succ])
        refine wpAnyH_take (i := 9) (v := .int .i64 0) rfl (by kernel_rfl) (by kernel_rfl) (by kernel_rfl) (fun _ _ _ h => h) (Or.inl ⟨by rfl, (fun w _ => by rfl)⟩) hHeld ?_
        (try simp only [Act.put, List.getElem_toArray, List.getElem_cons_zero, List.getElem_cons_succ, List.setIfInBounds_toArray, List.set_cons_zero, List.set_cons_succ])
        refine wpAnyH_done (by kernel_rfl) ?_ _
        clear hHeld
        obtain ⟨y2, hy2⟩ : ∃ y, w6.alloc (.cells #[.pointer (some ⟨bs, 0, none⟩), .string s, .slice p1 j k5, .slice (some ⟨g, 0, none⟩) (j + 1) k2, .slice p3 n3 k3, .slice p4 n4 k4] 49) = y := ⟨_, rfl⟩
        rw [hy2] at T3 HSN3 ⊢
        clear hy2
        have HF : Hid (NewP w d kl s 0 (.returned (.tuple #[.pointer (some ⟨bS, 0, none⟩), .int .i64 0])) y2) := Lib.hid (by
          have hl := scan_lv HNL.out HML.out HN3.out HN4.out HMK.out T3.out.tl
          have hb := It.lt T3.out.at rfl
          have e1 := HNL.out
          have e2 := HML.out
          have e3 := HN3.out
          have e4 := HN4.out
          refine ⟨T3.out.bel, .inr ⟨rfl, bS, rfl, HX2.out _ _ _ _ _ _ _ _ _ _ _ _ hb.2 (Nat.le_refl _) HSN3.out hl (T3.out.boxAt 0) (T3.out.boxAt 1) ?_ ?_ ?_ ?_⟩⟩
          · rw [e1]; exact T3.out.boxAt 2
          · rw [e2]; exact T3.out.boxAt 3
          · rw [e3]; exact T3.out.boxAt 4
          · rw [e4]; exact T3.out.boxAt 5)
        clear T3 HSN3 HX2 HNL HML HN3 HN4 HMK
        go_wp2_with fail
        go_ret2
        exact HF.out
  · have hne : (EE != 0) = true := by simp [hE]
    go_wp2_with fail
    go_ret2
    exact ⟨S2.out.bel, .inl ⟨hE, rfl⟩⟩
end Go.Proofs.Ytemkppjdfjoipaa.I1.X
