/- Package dfa. -/
import Derived.Test.YthglciccejholaaDoorProg
import Derived.Test.YthglciccejholaaDoorV26
import Derived.Test.YthglciccejholaaDoorV27
import Derived.Test.YthglciccejholaaDoorRg
import Derived.Test.YthglciccejholaaDoorV4
import Derived.Great.BuildSlice
import Derived.WalkKit
import Derived.Maps.OwnSet
import Derived.Maps.OwnOps
import Derived.Maps.Own
import Derived.DeepKeys5
import Derived.BigFrame
import Derived.WalkMore
import Derived.ScopeJumps
import Derived.StillTailTactics
import Derived.Stop.BytesEq
import Derived.WalkLawsBesides
import Derived.WalkSpells
import Derived.Outline
import Derived.Lib.Walk
import Derived.Lib.Hide
import Derived.Lib.Slices
import Derived.Lib.Strings
import Derived.RegionTactic
import Derived.LoopTactic
import Derived.Below
import Derived.IntWalk
import Derived.Deep.QuietTactic
import Derived.BigQuiet
import Derived.Deep.MidRow
import Derived.Maps.AppendAt
import Derived.Laws.Rows
import Derived.Laws.Tables
import Derived.Deep.WholeRow
import Derived.Deep.Cut
import Derived.Deep.CutRange
import Derived.Lib.SliceRun
import Derived.Laws.MakeOwn
import Derived.Deep.RegionLaw
import Derived.Deep.RegionLawGrows
import Derived.Deep.RegionHeld3
import Derived.RegionCalls
import Derived.Deep.RegionWith
import Derived.Deep.Light
import Derived.Laws.CopyOwn
import Derived.Laws.ResultCell
namespace Go.Proofs.YthglciccejholaaDoor
set_option linter.unusedSimpArgs false
set_option linter.unusedVariables false
set_option maxRecDepth 100000
open Go.RowKit
/- findLive. -/
open Go.Maps
def neU (u : Nat → Int) : Bool := !zeroU u
def bkPush (bk : List (List Int)) (j : Nat) (i : Int) : List (List Int) := bk.set j (bk[j]?.getD [] ++ [i])
def bkTo (bk : List (List Int)) (s : Nst) (i : Nat) : List (List Int) := if 0 ≤ s.to ∧ neU s.u = true then bkPush bk s.to.toNat (i : Int) else bk
def bkFr (bk : List (List Int)) (fr : List Int) (i : Nat) : List (List Int) := fr.foldl (fun b x => bkPush b x.toNat (i : Int)) bk
def nst0 : Nst := ⟨fun _ => 0, -1, [], -1⟩
def bkT (ss : List Nst) : Nat → List (List Int) × List Nat
  | 0 => (List.replicate ss.length [], [])
  | k + 1 => (bkFr (bkTo (bkT ss k).1 (ss[k]?.getD nst0) k) (ss[k]?.getD nst0).fr k, if 0 ≤ (ss[k]?.getD nst0).rl then rch (bkT ss k).2 k else (bkT ss k).2)
/-- Lists of states, none longer than P. -/
structure PO (n P : Nat) (bk : List (List Int)) : Prop where
  len : bk.length = n
  ok : ∀ l ∈ bk, l.length ≤ P ∧ ∀ x ∈ l, 0 ≤ x ∧ x < (n : Int)
theorem PO.push {n P : Nat} {bk : List (List Int)} (h : PO n P bk) (j : Nat) {i : Nat} (hi : i < n) : PO n (P + 1) (bkPush bk j (i : Int)) := by
  refine ⟨by unfold bkPush; rw [List.length_set]; exact h.len, fun l hl => ?_⟩
  unfold bkPush at hl
  rcases List.mem_or_eq_of_mem_set hl with hl | rfl
  · exact ⟨by have := (h.ok l hl).1; omega, (h.ok l hl).2⟩
  · cases hj : bk[j]? with
    | none =>
      refine ⟨by simp, fun x hx => ?_⟩
      simp at hx; subst hx; omega
    | some m =>
      have hm := h.ok m (List.mem_of_getElem? hj)
      refine ⟨by simp; exact hm.1, fun x hx => ?_⟩
      simp only [Option.getD_some, List.mem_append, List.mem_singleton] at hx
      rcases hx with hx | rfl
      · exact hm.2 x hx
      · omega
theorem PO.mono {n P Q : Nat} {bk : List (List Int)} (h : PO n P bk) (hq : P ≤ Q) : PO n Q bk := ⟨h.len, fun l hl => ⟨Nat.le_trans (h.ok l hl).1 hq, (h.ok l hl).2⟩⟩
theorem PO.to {n P : Nat} {bk : List (List Int)} (h : PO n P bk) (s : Nst) {i : Nat} (hi : i < n) : PO n (P + 1) (bkTo bk s i) := by
  unfold bkTo; split
  · exact h.push _ hi
  · exact h.mono (Nat.le_succ _)
theorem PO.fr {n i : Nat} (hi : i < n) : ∀ {P : Nat} {bk : List (List Int)} (fr : List Int), PO n P bk → PO n (P + fr.length) (bkFr bk fr i)
  | P, bk, [], h => h
  | P, bk, x :: r, h => by
    have := PO.fr hi r (h.push x.toNat hi)
    rw [List.length_cons, show P + (r.length + 1) = P + 1 + r.length by omega]
    exact this
theorem frees_take7 (ss : List Nst) : ∀ k (h : k < ss.length), frees (ss.take (k + 1)) = frees (ss.take k) + ss[k].fr.length := by
  induction ss with
  | nil => intro k h; simp at h
  | cons s r ih =>
    intro k h
    cases k with
    | zero => simp [frees]
    | succ k =>
      have := ih k (by simpa using h)
      simp only [List.take_succ_cons, frees, List.getElem_cons_succ] at this ⊢
      omega
theorem frees_le (ss : List Nst) : ∀ k, frees (ss.take k) ≤ frees ss := by
  induction ss with
  | nil => intro k; simp
  | cons s r ih =>
    intro k
    cases k with
    | zero => simp [frees]
    | succ k =>
      have := ih k
      simp only [List.take_succ_cons, frees]; omega
theorem bkT_ok (ss : List Nst) : ∀ k, k ≤ ss.length → PO ss.length (k + frees (ss.take k)) (bkT ss k).1 ∧ (bkT ss k).2.Nodup ∧ ∀ s ∈ (bkT ss k).2, s < ss.length
  | 0, _ => ⟨⟨by simp [bkT], fun l hl => by
      have : l = [] := by simp [bkT] at hl; exact hl.2
      subst this; simp⟩, by simp [bkT], by simp [bkT]⟩
  | k + 1, h => by
    obtain ⟨h1, h2, h3⟩ := bkT_ok ss k (by omega)
    have hk : k < ss.length := by omega
    refine ⟨?_, ?_, ?_⟩
    · have := PO.fr hk (ss[k]?.getD nst0).fr (h1.to (ss[k]?.getD nst0) hk)
      rw [List.getElem?_eq_getElem hk] at this
      rw [frees_take7 ss k hk, bkT, List.getElem?_eq_getElem hk]
      exact this.mono (by simp; omega)
    · rw [bkT]; simp only; split
      · exact rch_nd h2 k
      · exact h2
    · rw [bkT]; simp only; split
      · intro s hs
        rcases mem_rch.1 hs with hs | rfl
        · exact h3 s hs
        · exact hk
      · exact h3
/-- The states that are alive. -/
def ssB (bk : List (List Int)) : List Nst := bk.map fun l => ⟨fun _ => 0, -1, l, -1⟩
theorem ssB_get (bk : List (List Int)) {s : Nat} (h : s < (ssB bk).length) (hb : s < bk.length) : (ssB bk)[s].fr = bk[s] := by
  have : (ssB bk)[s] = ⟨fun _ => 0, -1, bk[s], -1⟩ := List.getElem_map _
  rw [this]
def liveL (ss : List Nst) : List Nat := goF (ssB (bkT ss ss.length).1) (ss.length + 1) 0 (bkT ss ss.length).2
theorem make_n (n : Nat) (hn : n ≤ 4096) (w : World) : (Instr.makeSlice 46 (.int .i64 (n : Nat)) (.int .i64 (n : Nat))).run Tryd.prog w = .ok (.slice (some ⟨w.heap.size, 0, none⟩) n n) (w.alloc (.cells (List.replicate n (Value.slice none 0 0)).toArray 39)) := by
  obtain ⟨i0, hi, hz0, hz1, hz2⟩ := info_parts info39g
  have h := run_makeSlice (P := Tryd.prog) w 46 39 i0 (.slice none 0 0) Tryd.underlying46 hi hz0 .i64 .i64 (n : Int) (n : Int) (by omega) (by omega) (by rw [hz1]; omega) (by rw [hz2]; omega) (by omega)
  rw [h, hz1]
  have e : madeCells (Value.slice none 0 0).cells ((n : Int).toNat * 1) = (List.replicate n (Value.slice none 0 0)).toArray := by
    rw [Int.toNat_natCast, Nat.mul_one]
    apply Array.ext_getElem?
    intro i
    by_cases hi : i < n
    · simp [madeCells, hi, Nat.mod_one, Value.cells]
    · rw [Array.getElem?_eq_none (by simp [madeCells]; omega), Array.getElem?_eq_none (by simp; omega)]
  rw [e, Int.toNat_natCast]
theorem zc142 : Tryd.zeroCells142 = (List.replicate 64 (Value.int .u64 0) ++ [Value.slice none 0 0]).toArray := by kernel_rfl
theorem fr142 : FRow Tryd.zeroCells142 Tryd.zeroCells142 0 [] (.slice none 0 0) := by
  have e : ∀ i, i < 64 → (.int .u64 (W (mb []) i) : Value) = .int .u64 0 := fun i hi => by
    have h1 := sA_get (mb []) hi
    have e2 : mb [] = noS := by funext x; simp [mb, noS]
    rw [e2] at h1 ⊢
    have e3 : (sA noS)[i]? = some (.int .u64 0) := by
      show (sA fun _ => false)[i]? = _
      rw [sA_no]; simp [hi]
    rw [h1] at e3
    exact Option.some.inj e3
  refine ⟨rfl, fun j _ => rfl, fun i hi => ?_, ?_⟩
  · rw [e i hi, zc142, Nat.zero_add]
    rw [List.getElem?_toArray, List.getElem?_append_left (by simp; omega), List.getElem?_replicate, if_pos hi]
  · rw [zc142]; rfl
theorem rowsI_no : ∀ n, ∀ x ∈ rowsI (List.replicate n (Value.slice none 0 0)) (List.replicate n []), x = .row (.slice none 0 0) 3 1 0 [] := fun n x hx => by
  unfold rowsI at hx
  rw [List.zipWith_replicate] at hx
  exact (List.mem_replicate.1 hx).2
theorem LS.start (w : World) (n : Nat) : LS w.heap.size w ((w.alloc (.cells Tryd.zeroCells142 142)).alloc (.cells (List.replicate n (Value.slice none 0 0)).toArray 39)) w.heap.size (w.heap.size + 1) [] Tryd.zeroCells142 Tryd.zeroCells142 (.slice none 0 0) (List.replicate n (Value.slice none 0 0)) (List.replicate n []) [] := by
  refine ⟨fr142, by simp, ?_⟩
  have h1 := ((Sep.start w).alloc (.cells Tryd.zeroCells142 142)).alloc (.cells (List.replicate n (Value.slice none 0 0)).toArray 39)
  have hsz : (w.alloc (.cells Tryd.zeroCells142 142)).heap.size = w.heap.size + 1 := by simp
  rw [hsz] at h1
  refine ⟨h1.bel, h1.sz, fun x hx => ?_, ?_⟩
  · simp only [List.append_nil, List.mem_cons] at hx
    rcases hx with rfl | rfl | rfl | hx
    · exact h1.li _ (by simp)
    · exact ⟨by simp [ints], .inl ⟨rfl, rfl⟩⟩
    · exact h1.li _ (by simp)
    · rw [rowsI_no n x hx]; exact ⟨by simp, .inl ⟨rfl, rfl⟩⟩
  · have hr : ∀ x ∈ rowsI (List.replicate n (Value.slice none 0 0)) (List.replicate n []) ++ [], x.blk = none := fun x hx => by
      rw [List.append_nil] at hx; rw [rowsI_no n x hx]; rfl
    refine List.pairwise_cons.2 ⟨?_, List.pairwise_cons.2 ⟨?_, List.pairwise_cons.2 ⟨?_, ?_⟩⟩⟩
    · intro x hx b hb hxb
      rcases List.mem_cons.1 hx with rfl | hx
      · cases hxb
      · rcases List.mem_cons.1 hx with rfl | hx
        · have e1 : w.heap.size = b := by simpa [It.blk] using hb
          have e2 : w.heap.size + 1 = b := by simpa [It.blk] using hxb
          omega
        · rw [hr x hx] at hxb; cases hxb
    · intro x hx b hb; cases hb
    · intro x hx b hb hxb; rw [hr x hx] at hxb; cases hxb
    · rw [List.pairwise_iff_getElem]
      intro a b ha hb hab k hk
      rw [hr _ (List.getElem_mem ha)] at hk; cases hk
set_option maxHeartbeats 16000000 in
theorem live_any {D : Nat → Prop} {w : World} {bb : Nat} {R : Array Value} {ss : List Nst} {q : Option Addr} {c : Nat} (hD : ∀ b, D b → b < w.heap.size) (hSV : SV D w ss (.slice q ss.length c)) (hbb : w.heap[bb]? = some (.cells R 144)) (hR0 : R[0]? = some (.slice q ss.length c)) (hRs : R.size = 391) (hn : ss.length ≤ 4096) (hfree : frees ss ≤ 16384) (hfr : InB ss) (hto : ∀ s ∈ ss, s.to < ss.length) :
    Calls Tryd.prog 93 #[.pointer (some ⟨bb, 0, none⟩)] w fun e w' => e = .returned (.tuple #[]) ∧ w.grownBy w' (some bb) ∧ w'.heap[bb]? = some (.cells (putA R 2 (sA (mb (liveL ss))).toList) 144) := by
  have c0 : w.cell? ⟨bb, 0, none⟩ = some (.slice q ss.length c) := by rw [cell_of_row w bb 0 R 144 (0, 0) hbb]; exact hR0
  have HSV := Lib.hid hSV
  have HD := Lib.hid hD
  have HBB := Lib.hid hbb
  have hmk := fun z => make_n ss.length hn z
  have HMK := Lib.hid hmk
  clear hSV hD hbb hmk
  go_enter Tryd.func93, Tryd.ntmps93
  go_upto_region 1 with fail
  have hbl := (Array.getElem?_eq_some_iff.1 HBB.out).1
  have hmk1 := HMK.out (w.alloc (.cells Tryd.zeroCells142 142))
  have c0a : (w.alloc (.cells Tryd.zeroCells142 142)).cell? ⟨bb, 0, none⟩ = some (.slice q ss.length c) := (cell_same (heap_alloc_old w _ hbl) _).trans c0
  have hs1 : (w.alloc (.cells Tryd.zeroCells142 142)).heap.size = w.heap.size + 1 := by simp
  rw [hs1] at hmk1
  go_upto_region 2 with fail
  refine at_world (fun y => LS w.heap.size w y w.heap.size (w.heap.size + 1) [] Tryd.zeroCells142 Tryd.zeroCells142 (.slice none 0 0) (List.replicate ss.length (Value.slice none 0 0)) (List.replicate ss.length []) []) (LS.start w ss.length) fun y hy => ?_
  have HY := Lib.hid hy
  have c0y : y.cell? ⟨bb, 0, none⟩ = some (.slice q ss.length c) := (cell_same (hy.sep.bel.block bb hbl) _).trans c0
  clear hy hmk1 c0a hs1
  go_wp2_with fail
  go_loopw [19] (fun i wr => ∃ (k : Nat) (fl : List Nat) (RF : Array Value) (fsl : Value) (vs : List Value) (bk : List (List Int)), i = .int .i64 (k : Nat) ∧ k ≤ ss.length ∧ Hid (bkT ss k = (bk, fl)) ∧ Hid (LS w.heap.size w wr w.heap.size (w.heap.size + 1) fl Tryd.zeroCells142 RF fsl vs bk [])) (fun i _ => ss.length - (intOf i).toNat)
  case atStart => exact ⟨0, [], _, _, _, _, rfl, by omega, Lib.hid rfl, HY⟩
  case round =>
    clear HY c0y
    obtain ⟨k, fl, RF, fsl, vs, bk, rfl, hk, HT, HY⟩ := hrel
    obtain ⟨wo, rfl⟩ : ∃ wo : World, wo = wr := ⟨_, rfl⟩
    by_cases hlt : k < ss.length
    · obtain ⟨q', c', he, hSV⟩ := HSV.out
      cases he
      obtain ⟨b5, o, rfl, hDb, hx⟩ := hSV (by intro e; rw [e] at hlt; simp at hlt)
      obtain ⟨qf, f, hiv, hcell⟩ := hx k hlt
      have hbw := HD.out b5 hDb
      have ce : ∀ i y, (stC (ss[k]).u (ss[k]).to (.slice qf (ss[k]).fr.length f) (ss[k]).rl)[i]? = some y → wo.cell? ⟨b5, o + k * 7 + i, none⟩ = some y := fun i y hy => (cell_same (HY.out.sep.bel.block b5 hbw) _).trans (hcell i y hy)
      obtain ⟨hpo, hnd, hfl⟩ := bkT_ok ss k (by omega)
      have hpn := (bkT_ok ss (k + 1) (by omega)).1
      rw [HT.out] at hpo hnd hfl
      simp only at hpo hnd hfl
      have hft := frees_take7 ss k hlt
      have hfle := frees_le ss (k + 1)
      have htlt := hto ss[k] (List.getElem_mem hlt)
      have hfrr := hfr k
      rw [frOf_get hlt] at hfrr
      have hnext : bkT ss (k + 1) = (bkFr (bkTo bk ss[k] k) ss[k].fr k, if 0 ≤ ss[k].rl then rch fl k else fl) := by
        rw [bkT, HT.out, List.getElem?_eq_getElem hlt]; rfl
      obtain ⟨⟨u, tg, fr, rl⟩, hs⟩ : ∃ s, ss[k] = s := ⟨_, rfl⟩
      rw [hs] at hft htlt hfrr hnext ce hiv
      simp only at hft htlt hfrr hnext ce hiv
      have d0 : wo.cell? ⟨b5, o + k * 7, none⟩ = some (.int .u64 (u 0)) := ce 0 _ rfl
      have d1 : wo.cell? ⟨b5, o + k * 7 + 1, none⟩ = some (.int .u64 (u 1)) := ce 1 _ rfl
      have d2 : wo.cell? ⟨b5, o + k * 7 + 2, none⟩ = some (.int .u64 (u 2)) := ce 2 _ rfl
      have d3 : wo.cell? ⟨b5, o + k * 7 + 3, none⟩ = some (.int .u64 (u 3)) := ce 3 _ rfl
      have d4 : wo.cell? ⟨b5, o + k * 7 + 4, none⟩ = some (.int .i64 tg) := ce 4 _ rfl
      have d5 : wo.cell? ⟨b5, o + k * 7 + 5, none⟩ = some (.slice qf fr.length f) := ce 5 _ rfl
      have d6 : wo.cell? ⟨b5, o + k * 7 + 6, none⟩ = some (.int .i64 rl) := ce 6 _ rfl
      have hltI : (k : Int) < (ss.length : Int) := by omega
      have hkI : ¬ (k : Int) < 0 := by omega
      have HIV : Hid (IV D w fr (.slice qf fr.length f)) := Lib.hid hiv
      have HPO := Lib.hid hpo
      have HND := Lib.hid hnd
      have HFL := Lib.hid hfl
      have HNX := Lib.hid hnext
      have HFRR := Lib.hid hfrr
      have HX := Lib.hid (HY.out.xin (.cells #[.int .u64 (u 0), .int .u64 (u 1), .int .u64 (u 2), .int .u64 (u 3), .int .i64 tg, .slice qf fr.length f, .int .i64 rl] 73))
      have hwo : w.heap.size + 1 < wo.heap.size := (Array.getElem?_eq_some_iff.1 (HY.out.sep.li (.box (w.heap.size + 1) (.cells vs.toArray 39)) (by simp)).2).1
      clear hx hSV hcell hiv ce hpo hnd hfl hnext hs hfrr HY hpn HT
      go_upto_region 5 with fail
      obtain ⟨sb, hsb⟩ : ∃ sb, wo.heap.size = sb := ⟨_, rfl⟩
      rw [hsb] at HX hwo
      refine at_world (fun y => LS w.heap.size w y w.heap.size (w.heap.size + 1) fl Tryd.zeroCells142 RF fsl vs bk [.box sb (.cells #[.int .u64 (u 0), .int .u64 (u 1), .int .u64 (u 2), .int .u64 (u 3), .int .i64 tg, .slice qf fr.length f, .int .i64 rl] 73)]) HX.out fun y1 hy1 => ?_
      simp only [hsb]
      clear hsb d0 d1 d2 d3 d4 d5 d6 HX
      have HY1 := Lib.hid hy1
      clear hy1
      obtain ⟨i3, h3i, h3a, h3b, h3c⟩ := info_parts info3
      obtain ⟨BX, hBX⟩ : ∃ BX : Obj, (.cells #[.int .u64 (u 0), .int .u64 (u 1), .int .u64 (u 2), .int .u64 (u 3), .int .i64 tg, .slice qf fr.length f, .int .i64 rl] 73 : Obj) = BX := ⟨_, rfl⟩
      rw [hBX] at HY1
      have HC : Hid (∀ v : World, v.heap[sb]? = some BX → ∀ i x, #[Value.int .u64 (u 0), .int .u64 (u 1), .int .u64 (u 2), .int .u64 (u 3), .int .i64 tg, .slice qf fr.length f, .int .i64 rl][i]? = some x → v.cell? ⟨sb, i, none⟩ = some x) := Lib.hid fun v hv i x hx => by
        rw [← hBX] at hv
        rw [cell_of_row v sb i _ 73 (0, 0) hv]; exact hx
      clear hBX
      obtain ⟨bk1, hbk1⟩ : ∃ bk1, bkTo bk ⟨u, tg, fr, rl⟩ k = bk1 := ⟨_, rfl⟩
      have hpo1 := HPO.out.to ⟨u, tg, fr, rl⟩ hlt
      rw [hbk1] at hpo1 HNX
      have HPO1 := Lib.hid hpo1
      clear hpo1
      obtain ⟨bc, hbc⟩ : ∃ bc, (decide (0 ≤ tg) && !zeroU u) = bc := ⟨_, rfl⟩
      go_cut [32] from 24 to 32 (fun s32 wx => s32 = .bool bc ∧ wx = y1)
      case first =>
        have e0 := HC.out y1 HY1.out.xat 0 _ rfl
        have e1 := HC.out y1 HY1.out.xat 1 _ rfl
        have e2 := HC.out y1 HY1.out.xat 2 _ rfl
        have e3 := HC.out y1 HY1.out.xat 3 _ rfl
        have e4 := HC.out y1 HY1.out.xat 4 _ rfl
        have hnq := neq24g u
        by_cases h0 : 0 ≤ tg
        · have hb : (!zeroU u) = bc := by rw [← hbc]; simp [h0]
          rw [hb] at hnq
          go_wp2_with fail
          go_meet
          exact ⟨rfl, rfl⟩
        · have hb : bc = false := by rw [← hbc]; simp; intro h; omega
          subst hb
          go_wp2_with fail
          go_meet
          exact ⟨rfl, rfl⟩
      case rest =>
      obtain ⟨rfl, hy1e⟩ := hcut
      rw [hy1e]
      clear hy1e
      go_upto_if 32 with fail
      go_cut [44] from 33 to 44 (fun s44 wx => ∃ vs', Hid (LS w.heap.size w wx w.heap.size (w.heap.size + 1) fl Tryd.zeroCells142 RF fsl vs' bk1 [.box sb BX]))
      case first =>
        cases bc with
        | false =>
          have hb : bk = bk1 := by
            rw [← hbk1]; unfold bkTo neU
            rw [if_neg]
            rintro ⟨h1, h2⟩
            have h1 : 0 ≤ tg := h1
            have h2 : (!zeroU u) = true := h2
            rw [h2] at hbc; simp [h1] at hbc
          subst hb
          go_wp2_with fail
          go_meet
          exact ⟨_, HY1⟩
        | true =>
            simp only [Bool.and_eq_true, decide_eq_true_eq] at hbc
            obtain ⟨h0, hzu⟩ := hbc
            have hzu : zeroU u = false := by simpa using hzu
            obtain ⟨m, rfl⟩ : ∃ m : Nat, tg = (m : Int) := ⟨tg.toNat, by omega⟩
            have hml : m < bk.length := by have := HPO.out.len; omega
            have hmv : m < vs.length := by have := HY1.out.len; omega
            have hb : bk.set m (bk[m] ++ [(k : Int)]) = bk1 := by
              rw [← hbk1]; unfold bkTo neU bkPush; rw [hzu]; simp [hml]
            have HB1 := Lib.hid hb
            have hrow := HY1.out.rowAt hml hmv
            have hmlen := (HPO.out.ok bk[m] (List.getElem_mem hml)).1
            obtain ⟨pm, cm, hvm⟩ := rowF_ hrow
            have HVM := Lib.hid hvm
            have HA := Lib.hid (HY1.out.up ((Below.refl _ _).drew.alloc (by simp) (.cells #[.int .i64 (k : Nat)] 3)))
            have hmI : (m : Int) < (ss.length : Int) := by omega
            have hmI0 : ¬ (m : Int) < 0 := by omega
            clear hb hbk1 hrow hvm hzu h0
            go_upto_region 6 with fail
            have hpos : sb ≠ w.heap.size + 1 := by omega
            have hxd : y1.drew.heap[sb]? = some BX := HY1.out.xat
            refine wp_region_held_drew (S := fun v => v.heap[sb]? = some BX) (by kernel_rfl) hxd (fun hHeld => ?_)
            refine wpAnyH_take (i := 0) (v := (.slice (some ⟨w.heap.size + 1, 0, none⟩) ss.length ss.length)) rfl (by kernel_rfl) (by kernel_rfl) (by kernel_rfl) (fun _ _ _ h => h) (Or.inl ⟨by rfl, by (intro w hSw; (try dsimp only at hSw); go_simp)⟩) hHeld ?_
            (try simp only [Act.put, List.getElem_toArray, List.getElem_cons_zero, List.getElem_cons_succ, List.setIfInBounds_toArray, List.set_cons_zero, List.set_cons_succ])
            refine wpAnyH_take (i := 1) (v := (.pointer (some ⟨sb, 4, none⟩))) rfl (by kernel_rfl) (by kernel_rfl) (by kernel_rfl) (fun _ _ _ h => h) (Or.inl ⟨by rfl, by (intro w hSw; (try dsimp only at hSw); go_simp)⟩) hHeld ?_
            (try simp only [Act.put, List.getElem_toArray, List.getElem_cons_zero, List.getElem_cons_succ, List.setIfInBounds_toArray, List.set_cons_zero, List.set_cons_succ])
            refine wpAnyH_take (i := 2) (v := (.int .i64 (m : Nat))) rfl (by kernel_rfl) (by kernel_rfl) (by kernel_rfl) (fun _ _ _ h => h) (Or.inl ⟨by rfl, by (intro w hSw; have h1 := HC.out w hSw 4 _ rfl; go_simp)⟩) hHeld ?_
            (try simp only [Act.put, List.getElem_toArray, List.getElem_cons_zero, List.getElem_cons_succ, List.setIfInBounds_toArray, List.set_cons_zero, List.set_cons_succ])
            refine wpAnyH_take (i := 3) (v := (.slice (some ⟨w.heap.size + 1, 0, none⟩) ss.length ss.length)) rfl (by kernel_rfl) (by kernel_rfl) (by kernel_rfl) (fun _ _ _ h => h) (Or.inl ⟨by rfl, by (intro w hSw; (try dsimp only at hSw); go_simp)⟩) hHeld ?_
            (try simp only [Act.put, List.getElem_toArray, List.getElem_cons_zero, List.getElem_cons_succ, List.setIfInBounds_toArray, List.set_cons_zero, List.set_cons_succ])
            refine wpAnyH_take (i := 4) (v := (.pointer (some ⟨sb, 4, none⟩))) rfl (by kernel_rfl) (by kernel_rfl) (by kernel_rfl) (fun _ _ _ h => h) (Or.inl ⟨by rfl, by (intro w hSw; (try dsimp only at hSw); go_simp)⟩) hHeld ?_
            (try simp only [Act.put, List.getElem_toArray, List.getElem_cons_zero, List.getElem_cons_succ, List.setIfInBounds_toArray, List.set_cons_zero, List.set_cons_succ])
            refine wpAnyH_take (i := 5) (v := (.int .i64 (m : Nat))) rfl (by kernel_rfl) (by kernel_rfl) (by kernel_rfl) (fun _ _ _ h => h) (Or.inl ⟨by rfl, by (intro w hSw; have h1 := HC.out w hSw 4 _ rfl; go_simp)⟩) hHeld ?_
            (try simp only [Act.put, List.getElem_toArray, List.getElem_cons_zero, List.getElem_cons_succ, List.setIfInBounds_toArray, List.set_cons_zero, List.set_cons_succ])
            refine wpAnyH_take (i := 6) (v := (.pointer (some ⟨w.heap.size + 1, m, none⟩))) rfl (by kernel_rfl) (by kernel_rfl) (by kernel_rfl) (fun _ _ _ h => h) (Or.inl ⟨by rfl, by (intro w hSw; (try dsimp only at hSw); go_simp)⟩) hHeld ?_
            (try simp only [Act.put, List.getElem_toArray, List.getElem_cons_zero, List.getElem_cons_succ, List.setIfInBounds_toArray, List.set_cons_zero, List.set_cons_succ])
            refine wpAnyH_take (i := 8) (v := (.int .i64 (k : Nat))) rfl (by kernel_rfl) (by kernel_rfl) (by kernel_rfl) (fun _ _ _ h => h) (Or.inl ⟨by rfl, by (intro w hSw; (try dsimp only at hSw); go_simp)⟩) hHeld ?_
            (try simp only [Act.put, List.getElem_toArray, List.getElem_cons_zero, List.getElem_cons_succ, List.setIfInBounds_toArray, List.set_cons_zero, List.set_cons_succ])
            refine wpAnyH_ready (rs := [7, 9]) (by kernel_rfl) (by simp) ?_
            refine AllReadyH.cons rfl (fun K9 hK => ?_) (AllReadyH.cons rfl (fun K9 hK => ?_) (AllReadyH.nil))
            · rw [if_pos (by rfl)]
              refine wp_load_slice 39 (.tmp 39) rfl ⟨w.heap.size + 1, m, none⟩ rfl Tryd.underlying39 (.slice pm bk[m].length cm) (by rw [← HVM.out]; exact HY1.out.at hmv) ?_
              refine hK.out _ _ (hxd) (fun hHeld2 => ?_)
              clear hHeld hK
              have hHeld := hHeld2
              clear hHeld2
              (try simp only [Act.put, List.getElem_toArray, List.getElem_cons_zero, List.getElem_cons_succ, List.setIfInBounds_toArray, List.set_cons_zero, List.set_cons_succ])
              refine wpAnyH_ready (rs := [9]) (by kernel_rfl) (by simp) ?_
              refine AllReadyH.cons rfl (fun K9 hK => ?_) (AllReadyH.nil)
              rw [if_pos (by rfl)]
              go_wp2_with fail
              refine hK.out _ _ (HA.out.xat) (fun hHeld2 => ?_)
              clear hHeld hK
              have hHeld := hHeld2
              clear hHeld2
              (try simp only [Act.put, List.getElem_toArray, List.getElem_cons_zero, List.getElem_cons_succ, List.setIfInBounds_toArray, List.set_cons_zero, List.set_cons_succ])
              refine wpAnyH_ready (rs := [10]) (by kernel_rfl) (by simp) ?_
              refine AllReadyH.cons rfl (fun K9 hK => ?_) (AllReadyH.nil)
              rw [if_pos (by rfl)]
              refine wp_append_own (.tmp 40) (.tmp 42) 39 rfl w.heap.size 3 i3 (.int .i64 0) 1 8 Tryd.underlying39 h3i h3a h3b h3c rfl (by decide) (.slice pm bk[m].length cm) bk[m].length (intI bk[m]) rfl (by rw [← HVM.out]; exact HA.out.rowAt hml hmv) ⟨y1.drew.heap.size, 0, none⟩ 1 1 [.int .i64 (k : Nat)] rfl rfl ?e2 ?e3 ?e4 ?e5 ?e6 ?_
              case e2 => intro j v hv; cases j with | zero => rw [← hv]; exact cell_of_row _ _ _ _ 3 (0, 0) (heap_alloc_last y1.drew _) | succ j => cases hv
              case e3 => simp [Value.oneCell']
              case e4 => unfold maxLen; omega
              case e5 => omega
              case e6 => exact HA.out.sep.sz
              intro v' w7 hown7 hgrow7 hat7
              obtain ⟨p7, c7, rfl⟩ := rowF_ hown7
              rw [← HVM.out] at hgrow7 hat7
              have hF7 := HA.out.pushF hml hmv hgrow7
              have hp7 := HA.out.push hml hmv (i := (k : Int)) hown7 hgrow7 hat7
              rw [HB1.out] at hp7
              have HP7 := Lib.hid hp7
              have hx7 : w7.heap[sb]? = some BX := by have h1 := hp7.xat; rwa [heap_setCell_other w7 _ sb _ hpos] at h1
              have hfz7 : w7.frozen? ⟨w.heap.size + 1, m, none⟩ = false := frozen_of_row w7 _ m _ 39 hF7
              have hc7 : w7.cell? ⟨w.heap.size + 1, m, none⟩ = some vs[m] := by rw [cell_of_row w7 _ m _ 39 (0, 0) hF7]; simp [hmv]
              clear hp7 hF7 hown7 hgrow7 hat7
              refine hK.out _ _ (hx7) (fun hHeld2 => ?_)
              clear hHeld hK
              have hHeld := hHeld2
              clear hHeld2
              (try simp only [Act.put, List.getElem_toArray, List.getElem_cons_zero, List.getElem_cons_succ, List.setIfInBounds_toArray, List.set_cons_zero, List.set_cons_succ])
              refine wpAnyH_take (i := 11) (v := (.pointer (some ⟨w.heap.size + 1, m, none⟩))) rfl (by kernel_rfl) (by kernel_rfl) (by kernel_rfl) (fun _ _ _ h => h) (Or.inl ⟨by rfl, by (intro w hSw; (try dsimp only at hSw); go_simp)⟩) hHeld ?_
              (try simp only [Act.put, List.getElem_toArray, List.getElem_cons_zero, List.getElem_cons_succ, List.setIfInBounds_toArray, List.set_cons_zero, List.set_cons_succ])
              refine wpAnyH_ready (rs := [12]) (by kernel_rfl) (by simp) ?_
              refine AllReadyH.cons rfl (fun K9 hK => ?_) (AllReadyH.nil)
              rw [if_pos (by rfl)]
              go_wp2_with fail
              refine hK.out _ _ (HP7.out.xat) (fun hHeld2 => ?_)
              clear hHeld hK
              have hHeld := hHeld2
              clear hHeld2
              (try simp only [Act.put, List.getElem_toArray, List.getElem_cons_zero, List.getElem_cons_succ, List.setIfInBounds_toArray, List.set_cons_zero, List.set_cons_succ])
              refine wpAnyH_done (by kernel_rfl) ?_ _
              go_wp2_with fail
              go_meet
              exact ⟨_, HP7⟩
            · rw [if_pos (by rfl)]
              go_wp2_with fail
              refine hK.out _ _ (HA.out.xat) (fun hHeld2 => ?_)
              clear hHeld hK
              have hHeld := hHeld2
              clear hHeld2
              (try simp only [Act.put, List.getElem_toArray, List.getElem_cons_zero, List.getElem_cons_succ, List.setIfInBounds_toArray, List.set_cons_zero, List.set_cons_succ])
              refine wpAnyH_ready (rs := [7]) (by kernel_rfl) (by simp) ?_
              refine AllReadyH.cons rfl (fun K9 hK => ?_) (AllReadyH.nil)
              rw [if_pos (by rfl)]
              refine wp_load_slice 39 (.tmp 39) rfl ⟨w.heap.size + 1, m, none⟩ rfl Tryd.underlying39 (.slice pm bk[m].length cm) (by rw [← HVM.out]; exact HA.out.at hmv) ?_
              refine hK.out _ _ (HA.out.xat) (fun hHeld2 => ?_)
              clear hHeld hK
              have hHeld := hHeld2
              clear hHeld2
              (try simp only [Act.put, List.getElem_toArray, List.getElem_cons_zero, List.getElem_cons_succ, List.setIfInBounds_toArray, List.set_cons_zero, List.set_cons_succ])
              refine wpAnyH_ready (rs := [10]) (by kernel_rfl) (by simp) ?_
              refine AllReadyH.cons rfl (fun K9 hK => ?_) (AllReadyH.nil)
              rw [if_pos (by rfl)]
              refine wp_append_own (.tmp 40) (.tmp 42) 39 rfl w.heap.size 3 i3 (.int .i64 0) 1 8 Tryd.underlying39 h3i h3a h3b h3c rfl (by decide) (.slice pm bk[m].length cm) bk[m].length (intI bk[m]) rfl (by rw [← HVM.out]; exact HA.out.rowAt hml hmv) ⟨y1.drew.heap.size, 0, none⟩ 1 1 [.int .i64 (k : Nat)] rfl rfl ?e2 ?e3 ?e4 ?e5 ?e6 ?_
              case e2 => intro j v hv; cases j with | zero => rw [← hv]; exact cell_of_row _ _ _ _ 3 (0, 0) (heap_alloc_last y1.drew _) | succ j => cases hv
              case e3 => simp [Value.oneCell']
              case e4 => unfold maxLen; omega
              case e5 => omega
              case e6 => exact HA.out.sep.sz
              intro v' w7 hown7 hgrow7 hat7
              obtain ⟨p7, c7, rfl⟩ := rowF_ hown7
              rw [← HVM.out] at hgrow7 hat7
              have hF7 := HA.out.pushF hml hmv hgrow7
              have hp7 := HA.out.push hml hmv (i := (k : Int)) hown7 hgrow7 hat7
              rw [HB1.out] at hp7
              have HP7 := Lib.hid hp7
              have hx7 : w7.heap[sb]? = some BX := by have h1 := hp7.xat; rwa [heap_setCell_other w7 _ sb _ hpos] at h1
              have hfz7 : w7.frozen? ⟨w.heap.size + 1, m, none⟩ = false := frozen_of_row w7 _ m _ 39 hF7
              have hc7 : w7.cell? ⟨w.heap.size + 1, m, none⟩ = some vs[m] := by rw [cell_of_row w7 _ m _ 39 (0, 0) hF7]; simp [hmv]
              clear hp7 hF7 hown7 hgrow7 hat7
              refine hK.out _ _ (hx7) (fun hHeld2 => ?_)
              clear hHeld hK
              have hHeld := hHeld2
              clear hHeld2
              (try simp only [Act.put, List.getElem_toArray, List.getElem_cons_zero, List.getElem_cons_succ, List.setIfInBounds_toArray, List.set_cons_zero, List.set_cons_succ])
              refine wpAnyH_take (i := 11) (v := (.pointer (some ⟨w.heap.size + 1, m, none⟩))) rfl (by kernel_rfl) (by kernel_rfl) (by kernel_rfl) (fun _ _ _ h => h) (Or.inl ⟨by rfl, by (intro w hSw; (try dsimp only at hSw); go_simp)⟩) hHeld ?_
              (try simp only [Act.put, List.getElem_toArray, List.getElem_cons_zero, List.getElem_cons_succ, List.setIfInBounds_toArray, List.set_cons_zero, List.set_cons_succ])
              refine wpAnyH_ready (rs := [12]) (by kernel_rfl) (by simp) ?_
              refine AllReadyH.cons rfl (fun K9 hK => ?_) (AllReadyH.nil)
              rw [if_pos (by rfl)]
              go_wp2_with fail
              refine hK.out _ _ (HP7.out.xat) (fun hHeld2 => ?_)
              clear hHeld hK
              have hHeld := hHeld2
              clear hHeld2
              (try simp only [Act.put, List.getElem_toArray, List.getElem_cons_zero, List.getElem_cons_succ, List.setIfInBounds_toArray, List.set_cons_zero, List.set_cons_succ])
              refine wpAnyH_done (by kernel_rfl) ?_ _
              go_wp2_with fail
              go_meet
              exact ⟨_, HP7⟩
      case rest =>
        clear HY1
        obtain ⟨vs2, HL⟩ := hcut
        have e5 := HC.out wc HL.out.xat 5 _ rfl
        go_wp2_with fail
        clear e5
        go_loopw [48] (fun i wr => ∃ (m : Nat) (vs3 : List Value), i = .int .i64 (m : Nat) ∧ m ≤ fr.length ∧ Hid (LS w.heap.size w wr w.heap.size (w.heap.size + 1) fl Tryd.zeroCells142 RF fsl vs3 (bkFr bk1 (fr.take m) k) [.box sb BX])) (fun i _ => fr.length - (intOf i).toNat)
        case atStart => exact ⟨0, vs2, rfl, by omega, HL⟩
        case round =>
          clear HL
          obtain ⟨m, vs3, rfl, hm, HL⟩ := hrel
          obtain ⟨wk, rfl⟩ : ∃ wk : World, wk = wr := ⟨_, rfl⟩
          by_cases hml : m < fr.length
          · obtain ⟨p', c', he, hh⟩ := HIV.out
            cases he
            obtain ⟨bf, uf, rfl, hbf, hcf⟩ := hh (by intro e; rw [e] at hml; simp at hml)
            have hxr := HFRR.out fr[m] (List.getElem_mem hml)
            obtain ⟨t, ht⟩ : ∃ t : Nat, fr[m] = (t : Int) := ⟨fr[m].toNat, by omega⟩
            have cx : wk.cell? ⟨bf, uf + m, none⟩ = some (.int .i64 (t : Nat)) := (cell_same (HL.out.sep.bel.block bf (HD.out bf hbf)) _).trans (by rw [hcf m hml, ht])
            have hpm := PO.fr hlt (fr.take m) HPO1.out
            have hst : bkFr bk1 (fr.take (m + 1)) k = bkPush (bkFr bk1 (fr.take m) k) t (k : Int) := by
              rw [List.take_add_one, List.getElem?_eq_getElem hml, ht]; unfold bkFr; simp
            have hlen := hpm.len
            obtain ⟨bk2, hb2⟩ : ∃ bk2, bkFr bk1 (fr.take m) k = bk2 := ⟨_, rfl⟩
            rw [hb2] at hst hpm hlen HL
            have htl : t < bk2.length := by omega
            have htv : t < vs3.length := by have := HL.out.len; omega
            have hst2 : bk2.set t (bk2[t] ++ [(k : Int)]) = bkFr bk1 (fr.take (m + 1)) k := by rw [hst]; unfold bkPush; simp [htl]
            have HB2 := Lib.hid hst2
            have htlen := (hpm.ok bk2[t] (List.getElem_mem htl)).1
            rw [List.length_take] at htlen
            have hrow := HL.out.rowAt htl htv
            obtain ⟨pm, cm, hvm⟩ := rowF_ hrow
            have HVM := Lib.hid hvm
            have HA := Lib.hid (HL.out.up ((Below.refl _ _).alloc (Nat.le_refl _) (.cells #[.int .i64 (k : Nat)] 3)))
            have HYA := Lib.hid (show (wk.alloc (.cells #[.int .i64 (k : Nat)] 3)).heap.size = wk.heap.size + 1 by simp)
            have c1 : wk.cell? ⟨w.heap.size + 1, t, none⟩ = some (.slice pm bk2[t].length cm) := by rw [← hvm]; exact HL.out.at htv
            have hmI : (m : Int) < (fr.length : Int) := by omega
            have hmI0 : ¬ (m : Int) < 0 := by omega
            have htI : (t : Int) < (ss.length : Int) := by omega
            have htI0 : ¬ (t : Int) < 0 := by omega
            clear hst hst2 hrow hvm hh hcf hpm hb2 HL ht hxr
            go_wp2_with (at_builtin; refine wpList_append_own_at _ rfl (.tmp 57) (.tmp 59) 39 rfl w.heap.size 3 i3 (.int .i64 0) 1 8 Tryd.underlying39 h3i h3a h3b h3c rfl (by decide) (.slice pm bk2[t].length cm) bk2[t].length (intI bk2[t]) rfl ?c0 ⟨wk.heap.size, 0, none⟩ 1 1 [.int .i64 (k : Nat)] rfl rfl ?c1 ?c2 ?c3 ?c4 ?c5 ?_)
            case c0 => rw [← HVM.out]; exact HA.out.rowAt htl htv
            case c2 => simp [Value.oneCell']
            case c3 => unfold maxLen; omega
            case c4 => omega
            case c5 => have := HYA.out; have := HA.out.sep.sz; omega
            intro v' w7 hown7 hgrow7 _ hat7
            obtain ⟨p7, c7, rfl⟩ := rowF_ hown7
            rw [← HYA.out] at hat7
            rw [← HVM.out] at hgrow7 hat7
            have hF7 := HA.out.pushF htl htv hgrow7
            have hp7 := HA.out.push htl htv (i := (k : Int)) hown7 hgrow7 hat7
            rw [HB2.out] at hp7
            have HP7 := Lib.hid hp7
            have hfz7 : w7.frozen? ⟨w.heap.size + 1, t, none⟩ = false := frozen_of_row w7 _ t _ 39 hF7
            have hc7 : w7.cell? ⟨w.heap.size + 1, t, none⟩ = some vs3[t] := by rw [cell_of_row w7 _ t _ 39 (0, 0) hF7]; simp [htv]
            clear hp7 hF7 hown7 hgrow7 hat7 cx c1 HA
            go_wp2_with fail
            go_roundw
            case rel => exact ⟨m + 1, _, by go_num, by omega, HP7⟩
            case measure => simp [intOf]; omega
          · obtain rfl : m = fr.length := by omega
            rw [List.take_length] at HL
            have e6 := HC.out wk HL.out.xat 6 _ rfl
            have hmI : ¬ (fr.length : Int) < (fr.length : Int) := by omega
            by_cases hr0 : 0 ≤ rl
            · have hnx := HNX.out
              rw [if_pos hr0] at hnx
              have HNX2 := Lib.hid hnx
              have HRC := Lib.hid (reachS_any (s := k) HL.out.fs (by omega) (Nat.le_trans (nd_len HND.out HFL.out) (by omega)))
              clear hnx
              go_wp2_with fail
              refine HRC.out.mono ?_
              rintro _ y9 ⟨rfl, fsl9, h9⟩
              obtain ⟨RF9, h10⟩ := HL.out.back h9
              have H10 := Lib.hid h10.xout
              clear h9 h10 HRC HL e6
              go_wp2_with fail
              go_roundw
              case rel => exact ⟨k + 1, _, _, _, _, _, by go_num, by omega, HNX2, H10⟩
              case measure => simp [intOf]; omega
            · have hnx := HNX.out
              rw [if_neg hr0] at hnx
              have HNX2 := Lib.hid hnx
              have H10 := Lib.hid HL.out.xout
              clear hnx HL
              go_wp2_with fail
              go_roundw
              case rel => exact ⟨k + 1, _, _, _, _, _, by go_num, by omega, HNX2, H10⟩
              case measure => simp [intOf]; omega
    · obtain rfl : k = ss.length := by omega
      obtain ⟨hpo, hnd, hfl⟩ := bkT_ok ss ss.length (Nat.le_refl _)
      have hll : liveL ss = goF (ssB bk) (ss.length + 1) 0 fl := by unfold liveL; rw [HT.out]
      rw [HT.out] at hpo hnd hfl
      simp only at hpo hnd hfl
      have hln : bk.length = ss.length := hpo.len
      have hfle := frees_le ss ss.length
      have hsl : (ssB bk).length = ss.length := by unfold ssB; rw [List.length_map, hln]
      have hmp : (ssB bk).map (·.fr) = bk := by unfold ssB; rw [List.map_map]; exact List.map_id _
      have hnv : NV (DL w.heap.size (.box (w.heap.size + 1) (.cells vs.toArray 39) :: (rowsI vs bk ++ []))) wo ((ssB bk).map (·.fr)) (.slice (some ⟨w.heap.size + 1, 0, none⟩) ss.length ss.length) := by
        rw [hmp]
        have := HY.out.nv (by omega) ss.length
        rwa [hln] at this
      have hin : InB (ssB bk) := fun s x hx => by
        rw [hsl]
        by_cases hs : s < (ssB bk).length
        · rw [frOf_get hs] at hx
          have e : (ssB bk)[s].fr = bk[s]'(by rw [hln, ← hsl]; exact hs) := ssB_get bk hs (by rw [hln, ← hsl]; exact hs)
          rw [e] at hx
          exact (hpo.ok _ (List.getElem_mem _)).2 x hx
        · unfold frOf at hx
          rw [List.getElem?_eq_none (by omega)] at hx
          cases hx
      have hfl2 : ∀ s ∈ ssB bk, s.fr.length ≤ 9223372036854775806 := fun s hs => by
        unfold ssB at hs
        obtain ⟨l, hl, rfl⟩ := List.mem_map.1 hs
        have := (hpo.ok l hl).1
        simp only; omega
      have hsp := spread_any HY.out.fs hn hsl hnv hin hfl2 hnd hfl
      rw [← hll] at hsp
      obtain ⟨ll, hlle⟩ : ∃ ll, liveL ss = ll := ⟨_, rfl⟩
      rw [hlle] at hsp
      have HLL := Lib.hid hlle
      have HSP := Lib.hid hsp
      have HBE := Lib.hid HY.out.sep.bel
      have hltI : ¬ (ss.length : Int) < (ss.length : Int) := by omega
      clear hpo hnd hfl hll hln hfle hsl hmp hnv hin hfl2 hsp hlle HY HT
      go_wp2_with fail
      refine HSP.out.mono ?_
      rintro _ y9 ⟨rfl, fsl9, h9⟩
      have hbel9 : Below w.heap.size w y9 := HBE.out.trans h9.bel
      have hsw := h9.sw
      have hbl := (Array.getElem?_eq_some_iff.1 HBB.out).1
      have hb9 : y9.heap[bb]? = some (.cells R 144) := (hbel9.block bb hbl).trans HBB.out
      have hth : y9.there bb 2 64 := fun j hj => ⟨by rw [cell_of_row y9 bb _ R 144 (0, 0) hb9, Array.getElem?_eq_getElem (by omega)]; rfl, frozen_of_row y9 bb _ R 144 hb9⟩
      have HSW := Lib.hid hsw
      have HB9 := Lib.hid hb9
      have HTH := Lib.hid hth
      have HBL := Lib.hid hbel9
      clear h9 hbel9 hsw hb9 hth HSP HBE
      go_upto_region 16 with fail
      refine wp_region_list ?_
      refine wpList_plain rfl fun K hK => ?_
      have hK2 := Lib.hid hK
      clear hK
      go_wp2_with fail
      refine hK2.out _ _ ?_
      clear hK2 K
      refine wpList_plain rfl fun K hK => ?_
      have hK2 := Lib.hid hK
      clear hK
      go_wp2_with fail
      refine hK2.out _ _ ?_
      clear hK2 K
      (try simp only [Act.put, List.setIfInBounds_toArray, List.set_cons_succ, List.set_cons_zero])
      refine wpList_load_S rfl (.tmp 72) rfl w.heap.size 0 (mb ll) rfl HSW.out ?_
      (try simp only [Act.put, List.setIfInBounds_toArray, List.set_cons_succ, List.set_cons_zero])
      refine wpList_plain rfl fun K hK => ?_
      have hK2 := Lib.hid hK
      clear hK
      go_wp2_with fail
      refine hK2.out _ _ ?_
      clear hK2 K
      refine wpList_plain rfl fun K hK => ?_
      have hK2 := Lib.hid hK
      clear hK
      go_wp2_with fail
      refine hK2.out _ _ ?_
      clear hK2 K
      refine wpList_store_mid rfl 139 (.tmp 75) (.tmp 73) rfl bb 2 (sA (mb ll)) rfl rfl (by rw [sA_size]; exact HTH.out) (by rw [info139, sA_size]) (sA_one _) ?_
      (try simp only [Act.put])
      refine wpList_nil ?_
      obtain ⟨g1, g2, g3⟩ := setCells_rest bb (sA (mb ll)).toList 2 y9
      have hbe := HBL.out
      refine at_worldQ (fun z => w.grownBy z (some bb) ∧ z.heap[bb]? = some (.cells (putA R 2 (sA (mb ll)).toList) 144)) ⟨⟨g1.trans hbe.os, g2.trans hbe.tape, g3.trans hbe.output, by rw [setCells_size]; exact hbe.size, fun z hz hne => by rw [setCells_other (fun e => hne (by rw [e]))]; exact hbe.block z hz⟩, setCells_heap _ 2 y9 R HB9.out⟩ fun z hz => ?_
      have HZ := Lib.hid hz
      clear hz g1 g2 g3 hbe
      go_wp2_with fail
      go_end0
      rw [HLL.out]
      exact ⟨rfl, HZ.out.1, HZ.out.2⟩
end Go.Proofs.YthglciccejholaaDoor
