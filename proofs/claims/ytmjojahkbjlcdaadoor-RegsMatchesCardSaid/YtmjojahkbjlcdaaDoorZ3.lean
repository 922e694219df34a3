/- Texts of package regs, one behind the other. -/
import Derived.Test.YtmjojahkbjlcdaaDoorZ1
import Derived.Test.YtmjojahkbjlcdaaDoorX3
import Derived.Test.YtmjojahkbjlcdaaDoorPop
import Derived.Test.YtmjojahkbjlcdaaDoorX4
import Derived.Test.YtmjojahkbjlcdaaDoorX33
import Derived.Test.YtmjojahkbjlcdaaDoorX22
import Derived.Test.YtmjojahkbjlcdaaDoorX10
import Derived.WalkKit
import Derived.WalkLawsBesides
import Derived.WalkSpells
import Derived.Outline
import Derived.Lib.Walk
import Derived.Lib.Hide
import Derived.RegionTactic
import Derived.LoopTactic
import Derived.Below
import Derived.IntWalk
import Derived.Laws.ResultCell
import Derived.Deep.QuietTactic
import Derived.BigQuiet
import Derived.OwnWalk
import Derived.Laws.CopyOwn
import Derived.Deep.RegionHeld3
import Derived.RegionCalls
import Derived.Deep.RegionWith
namespace Go.Proofs.YtmjojahkbjlcdaaDoor
set_option linter.unusedSimpArgs false
set_option linter.unusedVariables false
set_option maxRecDepth 100000
open Go.RowKit
section
theorem W_bit (f : Nat → Bool) (k : Nat) : (((W f (k / 64) / 2 ^ (k % 64) : Nat) : Int) % 2 == 1) = f k := by
  have h := W_test f (k / 64) (k % 64) (Nat.mod_lt _ (by omega))
  rw [Nat.div_add_mod] at h
  rw [← h, Nat.testBit_eq_decide_div_mod_eq, Bool.eq_iff_iff]
  clear h
  generalize W f (k / 64) / 2 ^ (k % 64) = y
  simp; omega
def lowF (f : Nat → Bool) (k j : Nat) : Bool := decide (j < k) && f j
theorem lowF_zero (f : Nat → Bool) : lowF f 0 = fun _ => false := by funext j; simp [lowF]
theorem lowF_set (f : Nat → Bool) (k : Nat) : (fl (lowF f k)).setIfInBounds k (.bool (f k)) = fl (lowF f (k + 1)) := by
  refine fl_set _ _ k (f k) fun j _ => ?_
  unfold lowF
  by_cases h : j = k
  · subst h; simp
  · by_cases h1 : j < k
    · simp [h, h1, show j < k + 1 by omega]
    · simp [h, h1, show ¬ j < k + 1 by omega]
theorem lowF_all (f : Nat → Bool) : fl (lowF f 256) = fl f := fl_congr fun j hj => by simp [lowF, hj]

set_option maxHeartbeats 4000000 in
set_option maxRecDepth 100000 in
theorem flags_any (f : Nat → Bool) (w : World) :
    Calls Tryd.prog 62 #[setV f] w fun e w' => e = .returned (.agg (fl f)) ∧ Below w.heap.size w w' := by
  have S0 := Lib.hid ((((Sb.start w).alloc (.cells (wc f) 24)).alloc (.cells (fl fun _ => false) 94)).alloc (.cells (fl fun _ => false) 94))
  have hz := zero27
  go_enter Tryd.func62, Tryd.ntmps62
  go_wp2
  go_loopw [4] (fun i wr => ∃ k : Nat, k ≤ 256 ∧ i = .int .i64 k ∧ Sb w wr [(w.heap.size + 1 + 1, .cells (fl (lowF f k)) 94), (w.heap.size + 1, .cells (fl fun _ => false) 94), (w.heap.size, .cells (wc f) 24)]) (fun i _ => 256 - (intOf i).toNat)
  case atStart => exact ⟨0, by omega, rfl, by simpa [wc, lowF_zero] using S0.out⟩
  case round =>
    obtain ⟨k, hk, rfl, hS⟩ := hrel
    have HS := Lib.hid hS
    clear hS
    by_cases hlt : k < 256
    · have hlt' : (k : Int) < 256 := by omega
      have c0 := HS.out.tl.tl.word (k / 64) (by omega)
      have hx := W_lt f (k / 64)
      have hW := W_bit f k
      have hset := Lib.hid (lowF_set f k)
      generalize hq : W f (k / 64) = x at c0 hx hW
      clear hq
      generalize f k = v at hW hset
      have c1 := HS.out.flag k hlt
      have f1 := HS.out.free k
      have z1 := HS.out.lt
      obtain ⟨wo, rfl⟩ : ∃ wo : World, wo = wr := ⟨_, rfl⟩
      have hm : k % 64 < 64 := Nat.mod_lt _ (by omega)
      go_wp2
      go_loop [5, 6, 21, 22] (fun t i _ _ => ∃ j : Nat, j ≤ k % 64 ∧ i = .int .i64 j ∧ t = .int .u64 (x / 2 ^ j : Nat)) (fun _ i _ _ => k % 64 - (intOf i).toNat)
      case atStart => exact ⟨0, by omega, rfl, by simp⟩
      case round =>
        obtain ⟨j, hj, rfl, rfl⟩ := hrel
        by_cases hlj : j < k % 64
        · have hl : (j : Int) < (k : Int) % 64 := by omega
          have hd : IntKind.u64.wrap (((x / 2 ^ j : Nat) : Int) / 2) = ((x / 2 ^ (j + 1) : Nat) : Int) := by
            rw [Nat.pow_succ, ← Nat.div_div_eq_div_mul, IntKind.wrap_u64]
            have : x / 2 ^ j ≤ x := Nat.div_le_self ..
            generalize x / 2 ^ j = y at this ⊢
            omega
          generalize x / 2 ^ j = y at hd
          generalize hy : x / 2 ^ (j + 1) = y' at hd
          have hy' := Lib.hid hy
          clear hy
          go_wp2
          exact ⟨⟨j + 1, by omega, by go_num, by rw [hy'.out]⟩, by simp [intOf]; omega⟩
        · obtain rfl : j = k % 64 := by omega
          generalize x / 2 ^ (k % 64) = y at hW
          go_wp2
          go_roundw
          case rel => exact ⟨k + 1, by omega, by go_num, by rw [← hset.out]; exact HS.out.set _ (by simp <;> omega)⟩
          case measure => simp [intOf]; omega
    · obtain rfl : k = 256 := by omega
      clear hlt hk
      rw [lowF_all] at HS
      have h2 := Lib.hid HS.out.heap
      have h1 := Lib.hid HS.out.tl.heap
      go_wp2_with (first | (refine wpList_load_row rfl 94 (.tmp 3) rfl (w.heap.size + 1 + 1) rfl 94 (fl f) (0, 0) _ h2.out Tryd.underlying94 rfl (fsize27 f) ?_) | (refine wpList_store_row rfl 94 (.tmp 2) (.tmp 28) rfl (w.heap.size + 1) (fl f) rfl rfl 94 _ h1.out (fsize27 f) (by rw [fl_size, fl_size]) (fl_one f) ?_))
      have hE := (HS.out.sub (M := [(w.heap.size + 1, .cells (fl fun _ => false) 94), (w.heap.size, .cells (wc f) 24)]) (by simp)).setRow (cs' := fl f) (by simp)
      refine bodyPost_ret (v := .agg (fl f)) (results_cell_row rfl _ _ (w.heap.size + 1) 94 (fl f) (0, 0) _ rfl hE.heap Tryd.underlying94 rfl (fsize27 f)) rfl ⟨rfl, hE.1⟩
end
theorem bs_list5 (s : ByteArray) : bs s.data.toList = s := by
  cases s; simp [bs]
theorem match_ok {t : RT} (hc : checkE t = 0) {x : List UInt8} (hx : x.length ≤ 65536) : mtP t x = (matB t x, 0) := by
  unfold mtP
  rw [if_neg (by omega), if_neg (by omega)]
theorem mtP_err {t : RT} {x : List UInt8} (h : checkE t ≠ 0) : mtP t x = (false, checkE t) := by
  unfold mtP; rw [if_pos h]
theorem lgH_one (t : RT) : LgH [t] = Lg t := by funext w; rw [LgH]
theorem fOf_lt {u v : Nat → Int} (h : ∀ i, i < 4 → u i = v i) (c : Nat) (hc : c < 256) : fOf u c = fOf v c := by
  unfold fOf
  rw [h (c / 64) (by omega)]
theorem lg_set (u : Nat → Int) (w : List UInt8) : Lg (setT u) w ↔ ∃ c, w = [c] ∧ fOf u c.toNat = true := by
  unfold setT
  rw [Lg]
  simp only [show ¬ ((2 : Int) = 0) by decide, show ¬ ((2 : Int) = 1) by decide, if_false, if_true]
theorem lg_mk3 (u : Nat → Int) (ps : List RT) (w : List UInt8) : Lg (.mk 3 u ps) w ↔ LgR ps w := by
  rw [Lg]
  simp only [show ¬ ((3 : Int) = 0) by decide, show ¬ ((3 : Int) = 1) by decide, show ¬ ((3 : Int) = 2) by decide, if_false, if_true]
theorem lg_mk4 (u : Nat → Int) (ps : List RT) (w : List UInt8) : Lg (.mk 4 u ps) w ↔ LgC ps w := by
  rw [Lg]
  simp only [show ¬ ((4 : Int) = 0) by decide, show ¬ ((4 : Int) = 1) by decide, show ¬ ((4 : Int) = 2) by decide, show ¬ ((4 : Int) = 3) by decide, if_false, if_true]
theorem lgR_one (t : RT) (w : List UInt8) : LgR [t] w ↔ Lg t w := by
  rw [LgR]
  constructor
  · rintro ⟨a, b, rfl, h1, h2⟩
    rw [LgR] at h2
    subst h2
    simpa using h1
  · intro h
    exact ⟨w, [], by simp, h, by rw [LgR]⟩
theorem lgC_one (t : RT) (w : List UInt8) : LgC [t] w ↔ Lg t w := by
  rw [LgC, LgC]; simp
section
/- Lists of truths in memory: either. -/
def fbA (N : Nat) (f : Nat → Bool) : Array Value := ((List.range N).map fun j => Value.bool (f j)).toArray
theorem fbA_size (N : Nat) (f : Nat → Bool) : (fbA N f).size = N := by simp [fbA]
theorem fbA_get (N : Nat) (f : Nat → Bool) (j : Nat) (h : j < N) : (fbA N f)[j]? = some (.bool (f j)) := by
  simp [fbA, h]
theorem fbA_congr {N : Nat} {f g : Nat → Bool} (h : ∀ j, j < N → f j = g j) : fbA N f = fbA N g := by
  unfold fbA
  congr 1
  exact List.map_congr_left fun j hj => by rw [h j (List.mem_range.1 hj)]
theorem fbA_set (N : Nat) (f : Nat → Bool) (k : Nat) (v : Bool) : (fbA N f).setIfInBounds k (.bool v) = fbA N (fun j => if j = k then v else f j) := by
  apply Array.ext
  · simp [fbA]
  · intro i h1 h2
    simp [fbA, Array.getElem_setIfInBounds]
    by_cases h : k = i
    · subst h; simp
    · simp [List.getElem_set, h, show ¬ i = k from fun e => h e.symm]
def BL (N : Nat) (f : Nat → Bool) (sl : Value) (w : World) : Prop := ∃ g, sl = .slice (some ⟨g, 0, none⟩) N N ∧ w.heap[g]? = some (.cells (fbA N f) 4 (0, 0))
theorem BL.up {N : Nat} {f : Nat → Bool} {sl : Value} {w w' : World} (h : BL N f sl w) (hb : Below w.heap.size w w') : BL N f sl w' := by
  obtain ⟨g, h1, h2⟩ := h
  exact ⟨g, h1, (hb.block g (Array.getElem?_eq_some_iff.1 h2).1).trans h2⟩
theorem BL.congr {N : Nat} {f g : Nat → Bool} {sl : Value} {w : World} (h : BL N f sl w) (hfg : ∀ j, j < N → f j = g j) : BL N g sl w := by
  obtain ⟨b, h1, h2⟩ := h
  exact ⟨b, h1, by rw [← fbA_congr hfg]; exact h2⟩
theorem infoB : (Tryd.prog.info? 4).map (fun i => (i.zero, i.size, i.bytes)) = some (some (.bool false), 1, 1) := by kernel_rfl
theorem made_fb (N : Nat) : (madeCells #[Value.bool false] N).toList = (fbA N fun _ => false).toList := by
  apply List.ext_getElem
  · simp [madeCells, fbA]
  · intro i h1 h2
    simp [madeCells, fbA, Value.cells, Nat.mod_one]
theorem own_fb {w : World} {base g N : Nat} {f : Nat → Bool} (h : w.ownsRow base 4 1 (.slice (some ⟨g, 0, none⟩) N N) N (fbA N f).toList) : w.heap[g]? = some (.cells (fbA N f) 4 (0, 0)) := by
  rcases h.2 with ⟨hv, _⟩ | ⟨g', cap, cur, hv, _, hh, _, _, hs, ht⟩
  · cases hv
  · simp only [Value.slice.injEq, Option.some.injEq, Addr.mk.injEq] at hv
    obtain ⟨⟨rfl, -, -⟩, -, rfl⟩ := hv
    have : cur = fbA N f := by
      apply Array.ext'
      rw [← ht, List.take_of_length_le (by simp; omega)]
    rw [hh, this]
def EiP (N : Nat) (f : Nat → Bool) (w : World) (e : Ending) (w' : World) : Prop := (∃ v, e = .returned v ∧ BL N f v w') ∧ Below w.heap.size w w'
set_option maxHeartbeats 4000000 in
theorem eith5_any {N : Nat} (hN : N ≤ 1000) {f g : Nat → Bool} {sa sb : Value} {w : World} (ha : BL N f sa w) (hb : BL N g sb w) : Calls Tryd.prog 63 #[sa, sb] w (EiP N (fun j => f j || g j) w) := by
  obtain ⟨i0, hi, hz0, hz1, hz2⟩ := info_parts infoB
  obtain ⟨ga, rfl, hA⟩ := ha
  obtain ⟨gb, rfl, hB⟩ := hb
  have hga := (Array.getElem?_eq_some_iff.1 hA).1
  have hgb := (Array.getElem?_eq_some_iff.1 hB).1
  have HA := Lib.hid hA
  have HB := Lib.hid hB
  clear hA hB
  go_enter Tryd.func63, Tryd.ntmps63
  go_wp2_with (at_make; refine wpList_make_full _ rfl (.tmp 8) (.tmp 8) 73 rfl w.heap.size 4 i0 (.bool false) 1 Tryd.underlying73 hi hz0 hz1 .i64 .i64 _ _ N rfl rfl rfl rfl ?b2 ?b3 ?b4 ?_)
  case b2 => rw [hz2]; omega
  case b3 => unfold maxLen; omega
  case b4 => omega
  intro w1 hown hgrow
  rw [made_fb] at hown
  have HG := Lib.hid (own_fb hown)
  have HW := Lib.hid (below_grown (B := w.heap.size) (Below.refl _ w) hgrow (fun g h => by cases h) (Nat.le_refl _))
  clear hown hgrow
  go_wp2_with fail
  go_loopw [6] (fun i wr => ∃ k : Nat, k ≤ N ∧ i = .int .i64 (k : Nat) ∧ Hid (wr.heap[w.heap.size]? = some (.cells (fbA N fun j => decide (j < k) && (f j || g j)) 4 (0, 0))) ∧ Hid (Below w.heap.size w wr)) (fun i _ => N - (intOf i).toNat)
  case atStart => exact ⟨0, by omega, rfl, Lib.hid (by rw [HG.out]; simp), HW⟩
  case round =>
    obtain ⟨k, hk, rfl, HK, HL⟩ := hrel
    clear HG HW
    by_cases hlt : k < N
    · have hlt' : (k : Int) < (N : Int) := by omega
      have ca : wr.cell? ⟨ga, k, none⟩ = some (.bool (f k)) := by rw [HL.out.cell (p := ⟨ga, k, none⟩) hga, cell_of_row w ga k _ 4 (0, 0) HA.out, fbA_get N f k hlt]
      have cb : wr.cell? ⟨gb, k, none⟩ = some (.bool (g k)) := by rw [HL.out.cell (p := ⟨gb, k, none⟩) hgb, cell_of_row w gb k _ 4 (0, 0) HB.out, fbA_get N g k hlt]
      have cg : wr.cell? ⟨w.heap.size, k, none⟩ = some (.bool (decide (k < k) && (f k || g k))) := by rw [cell_of_row wr w.heap.size k _ 4 (0, 0) HK.out, fbA_get N _ k hlt]
      have fg : wr.frozen? ⟨w.heap.size, k, none⟩ = false := frozen_of_row wr w.heap.size k _ 4 HK.out
      have HS := Lib.hid fun v (hv : v = (f k || g k)) => (by
        have h1 := heap_setCell_same wr w.heap.size k _ 4 (.bool v) HK.out
        rw [fbA_set] at h1
        refine ⟨?_, HL.out.setCell (p := ⟨w.heap.size, k, none⟩) (Nat.le_refl _) (.bool v)⟩
        rw [h1]
        congr 2
        exact fbA_congr fun j hj => by
          by_cases hjk : j = k
          · subst hjk; simp [hv]
          · rw [if_neg hjk, show decide (j < k + 1) = decide (j < k) by rw [decide_eq_decide]; omega] : (wr.setCell ⟨w.heap.size, k, none⟩ (.bool v)).heap[w.heap.size]? = some (.cells (fbA N fun j => decide (j < k + 1) && (f j || g j)) 4 (0, 0)) ∧ Below w.heap.size w (wr.setCell ⟨w.heap.size, k, none⟩ (.bool v)))
      generalize f k = fk at *
      generalize g k = gk at *
      cases fk
      · have h9 := HS.out gk (by simp)
        have HS1 := Lib.hid h9.1
        have HS2 := Lib.hid h9.2
        clear h9 HS HK HL
        go_wp2_with fail
        go_roundw
        case rel => exact ⟨k + 1, by omega, by go_num, HS1, HS2⟩
        case measure => simp [intOf]; omega
      · have h9 := HS.out true (by simp)
        have HS1 := Lib.hid h9.1
        have HS2 := Lib.hid h9.2
        clear h9 HS HK HL
        go_wp2_with fail
        go_roundw
        case rel => exact ⟨k + 1, by omega, by go_num, HS1, HS2⟩
        case measure => simp [intOf]; omega
    · obtain rfl : k = N := by omega
      have hlt' : ¬ (k : Int) < (k : Int) := by omega
      have HK2 : Hid (wr.heap[w.heap.size]? = some (.cells (fbA k fun j => f j || g j) 4 (0, 0))) := Lib.hid (by
        rw [HK.out]
        congr 2
        exact fbA_congr fun j hj => by simp [hj])
      clear HK
      go_wp2_with fail
      go_ret
      exact ⟨⟨_, rfl, w.heap.size, rfl, HK2.out⟩, HL.out⟩
end
section
/- Where what a pattern matches may end. -/
def segL (x : List UInt8) (i j : Nat) : List UInt8 := (x.drop i).take (j - i)
def EdP (P : List UInt8 → Prop) (x : List UInt8) (f : Nat → Bool) (j : Nat) : Prop := ∃ i, f i = true ∧ i ≤ j ∧ j ≤ x.length ∧ P (segL x i j)
open Classical in
noncomputable def edG (P : List UInt8 → Prop) (x : List UInt8) (f : Nat → Bool) (j : Nat) : Bool := decide (EdP P x f j)
noncomputable def edF (t : RT) (x : List UInt8) (f : Nat → Bool) : Nat → Bool := edG (Lg t) x f
noncomputable def stF (t : RT) (x : List UInt8) (f : Nat → Bool) : Nat → Bool := edG (Sta (Lg t)) x f
theorem edG_iff {P : List UInt8 → Prop} {x : List UInt8} {f : Nat → Bool} {j : Nat} : edG P x f j = true ↔ EdP P x f j := by simp [edG]
theorem segL_self (x : List UInt8) (i : Nat) : segL x i i = [] := by simp [segL]
theorem segL_len {x : List UInt8} {i j : Nat} (h1 : i ≤ j) (h2 : j ≤ x.length) : (segL x i j).length = j - i := by
  simp [segL]; omega
theorem segL_app {x : List UInt8} {i j k : Nat} (h1 : i ≤ j) (h2 : j ≤ k) : segL x i k = segL x i j ++ segL x j k := by
  unfold segL
  rw [show k - i = (j - i) + (k - j) by omega, List.take_add, List.drop_drop, show i + (j - i) = j by omega]
theorem segL_split {x a b : List UInt8} {i k : Nat} (h1 : i ≤ k) (h2 : k ≤ x.length) (h : segL x i k = a ++ b) : i + a.length ≤ k ∧ segL x i (i + a.length) = a ∧ segL x (i + a.length) k = b := by
  have hl := segL_len h1 h2
  rw [h, List.length_append] at hl
  have e := segL_app (x := x) (i := i) (j := i + a.length) (k := k) (by omega) (by omega)
  rw [h] at e
  have h3 := segL_len (x := x) (i := i) (j := i + a.length) (by omega) (by omega)
  have := List.append_inj e (by rw [h3]; omega)
  exact ⟨by omega, this.1.symm, this.2.symm⟩
theorem edG_congr {P Q : List UInt8 → Prop} (h : ∀ w, P w ↔ Q w) (x : List UInt8) (f : Nat → Bool) : edG P x f = edG Q x f := by
  funext j
  rw [Bool.eq_iff_iff, edG_iff, edG_iff]
  simp only [EdP, h]
theorem edG_f {P : List UInt8 → Prop} {x : List UInt8} {f g : Nat → Bool} (h : ∀ j, j ≤ x.length → f j = g j) : edG P x f = edG P x g := by
  funext j
  rw [Bool.eq_iff_iff, edG_iff, edG_iff]
  constructor
  · rintro ⟨i, h1, h2, h3, h4⟩; exact ⟨i, by rw [← h i (by omega)]; exact h1, h2, h3, h4⟩
  · rintro ⟨i, h1, h2, h3, h4⟩; exact ⟨i, by rw [h i (by omega)]; exact h1, h2, h3, h4⟩
theorem ed_0 (u : Nat → Int) (ps : List RT) (x : List UInt8) (f : Nat → Bool) (j : Nat) : edF (.mk 0 u ps) x f j = false := by
  rw [Bool.eq_false_iff]
  intro h
  obtain ⟨i, _, _, _, h4⟩ := edG_iff.1 h
  rw [Lg, if_pos rfl] at h4
  exact h4
theorem ed_nil {P : List UInt8 → Prop} (hP : ∀ w, P w ↔ w = []) (x : List UInt8) (f : Nat → Bool) (j : Nat) (hj : j ≤ x.length) : edG P x f j = f j := by
  rw [Bool.eq_iff_iff, edG_iff]
  constructor
  · rintro ⟨i, h1, h2, h3, h4⟩
    have hl := segL_len h2 h3
    rw [(hP _).1 h4] at hl
    simp at hl
    rw [show j = i by omega]; exact h1
  · intro h
    exact ⟨j, h, Nat.le_refl _, hj, (hP _).2 (segL_self x j)⟩
theorem ed_1 (u : Nat → Int) (x : List UInt8) (f : Nat → Bool) (j : Nat) (hj : j ≤ x.length) : edF (.mk 1 u []) x f j = f j := ed_nil (fun w => by
  rw [Lg]
  simp only [show ¬ ((1 : Int) = 0) by decide, if_false, if_true]) x f j hj
theorem ed_cat {P Q : List UInt8 → Prop} (x : List UInt8) (f : Nat → Bool) : edG (fun w => ∃ a b, w = a ++ b ∧ P a ∧ Q b) x f = edG Q x (edG P x f) := by
  funext k
  rw [Bool.eq_iff_iff, edG_iff, edG_iff]
  constructor
  · rintro ⟨i, h1, h2, h3, a, b, e, hp, hq⟩
    obtain ⟨h4, h5, h6⟩ := segL_split h2 h3 e
    exact ⟨i + a.length, edG_iff.2 ⟨i, h1, by omega, by omega, by rw [h5]; exact hp⟩, h4, h3, by rw [h6]; exact hq⟩
  · rintro ⟨j, h1, h2, h3, hq⟩
    obtain ⟨i, h4, h5, h6, hp⟩ := edG_iff.1 h1
    exact ⟨i, h4, by omega, h3, segL x i j, segL x j k, segL_app h5 h2, hp, hq⟩
theorem ed_or {P Q : List UInt8 → Prop} (x : List UInt8) (f : Nat → Bool) (j : Nat) : edG (fun w => P w ∨ Q w) x f j = (edG P x f j || edG Q x f j) := by
  rw [Bool.eq_iff_iff, Bool.or_eq_true, edG_iff, edG_iff, edG_iff]
  constructor
  · rintro ⟨i, h1, h2, h3, hp | hq⟩
    · exact .inl ⟨i, h1, h2, h3, hp⟩
    · exact .inr ⟨i, h1, h2, h3, hq⟩
  · rintro (⟨i, h1, h2, h3, hp⟩ | ⟨i, h1, h2, h3, hq⟩)
    · exact ⟨i, h1, h2, h3, .inl hp⟩
    · exact ⟨i, h1, h2, h3, .inr hq⟩
theorem lgR_snoc (t : RT) : ∀ (ts : List RT) (w : List UInt8), LgR (ts ++ [t]) w ↔ ∃ a b, w = a ++ b ∧ LgR ts a ∧ Lg t b
  | [], w => by
    rw [List.nil_append, lgR_one]
    constructor
    · intro h; exact ⟨[], w, rfl, by rw [LgR], h⟩
    · rintro ⟨a, b, rfl, h1, h2⟩
      rw [LgR] at h1
      subst h1; exact h2
  | s :: ts, w => by
    rw [List.cons_append, LgR]
    constructor
    · rintro ⟨a, b, rfl, h1, h2⟩
      obtain ⟨c, d, rfl, h3, h4⟩ := (lgR_snoc t ts b).1 h2
      exact ⟨a ++ c, d, by simp, by rw [LgR]; exact ⟨a, c, rfl, h1, h3⟩, h4⟩
    · rintro ⟨a, b, rfl, h1, h2⟩
      rw [LgR] at h1
      obtain ⟨c, d, rfl, h3, h4⟩ := h1
      exact ⟨c, d ++ b, by simp, h3, (lgR_snoc t ts _).2 ⟨d, b, rfl, h4, h2⟩⟩
theorem lgC_snoc (t : RT) : ∀ (ts : List RT) (w : List UInt8), LgC (ts ++ [t]) w ↔ LgC ts w ∨ Lg t w
  | [], w => by rw [List.nil_append, lgC_one, LgC]; simp
  | s :: ts, w => by rw [List.cons_append, LgC, LgC, lgC_snoc t ts w]; simp [or_assoc]
theorem Sta.snoc {P : List UInt8 → Prop} {a b : List UInt8} (h : Sta P a) (hb : P b) : Sta P (a ++ b) := by
  induction h with
  | nil => have := Sta.app hb (Sta.nil (P := P)); simpa using this
  | app h1 h2 ih => rw [List.append_assoc]; exact .app h1 ih
/-- What is closed, and begins so, is what any number of times leads to. -/
theorem st_of {t : RT} {x : List UInt8} {f h : Nat → Bool} (h1 : ∀ j, j ≤ x.length → f j = true → h j = true) (h2 : ∀ j, j ≤ x.length → h j = true → stF t x f j = true) (h3 : ∀ j, j ≤ x.length → edF t x h j = true → h j = true) : ∀ j, j ≤ x.length → h j = stF t x f j := by
  intro j hj
  rw [Bool.eq_iff_iff]
  refine ⟨h2 j hj, fun hs => ?_⟩
  obtain ⟨i, h4, h5, h6, hsta⟩ := edG_iff.1 hs
  have key : ∀ w, Sta (Lg t) w → ∀ i, h i = true → i ≤ j → segL x i j = w → h j = true := by
    intro w hw
    induction hw with
    | nil =>
      intro i hi hij e
      have := segL_len hij hj
      rw [e] at this
      simp at this
      rw [show j = i by omega]; exact hi
    | app ha _ ih =>
      rename_i a b _
      intro i hi hij e
      obtain ⟨h7, h8, h9⟩ := segL_split hij hj e
      exact ih (i + a.length) (h3 _ (by omega) (edG_iff.2 ⟨i, hi, by omega, by omega, by rw [h8]; exact ha⟩)) h7 h9
  exact key _ hsta i (h1 i (by omega) h4) h5 rfl
theorem st_step {t : RT} {x : List UInt8} {f h : Nat → Bool} (h2 : ∀ j, j ≤ x.length → h j = true → stF t x f j = true) : ∀ j, j ≤ x.length → (h j || edF t x h j) = true → stF t x f j = true := by
  intro j hj hh
  rcases Bool.or_eq_true .. ▸ hh with hh | hh
  · exact h2 j hj hh
  · obtain ⟨i, h3, h4, h5, h6⟩ := edG_iff.1 hh
    obtain ⟨k, h7, h8, h9, h10⟩ := edG_iff.1 (h2 i (by omega) h3)
    exact edG_iff.2 ⟨k, h7, by omega, hj, by rw [segL_app h8 h4]; exact Sta.snoc h10 h6⟩
theorem st_from {t : RT} {x : List UInt8} {f : Nat → Bool} : ∀ j, j ≤ x.length → f j = true → stF t x f j = true := fun j hj h =>
  edG_iff.2 ⟨j, h, Nat.le_refl _, hj, by rw [segL_self]; exact .nil⟩
theorem cntF_lt {f g : Nat → Bool} : ∀ (N : Nat), (∀ j, j < N → f j = true → g j = true) → (∃ j, j < N ∧ f j ≠ g j) → cntF f N < cntF g N := by
  have mono : ∀ N, (∀ j, j < N → f j = true → g j = true) → cntF f N ≤ cntF g N := by
    intro N
    induction N with
    | zero => intro _; exact Nat.le_refl _
    | succ N ih =>
      intro h
      have h1 := ih fun j hj => h j (by omega)
      have h2 := h N (by omega)
      simp only [cntF]
      cases hf : f N <;> cases hg : g N <;> simp_all <;> omega
  intro N
  induction N with
  | zero => rintro _ ⟨j, hj, _⟩; omega
  | succ N ih =>
    rintro h ⟨j, hj, hne⟩
    simp only [cntF]
    have h2 := h N (by omega)
    by_cases hjN : j = N
    · subst hjN
      have h1 := mono j fun i hi => h i (by omega)
      cases hf : f j <;> cases hg : g j <;> simp_all <;> omega
    · have h1 := ih (fun i hi => h i (by omega)) ⟨j, by omega, hne⟩
      cases hf : f N <;> cases hg : g N <;> simp_all <;> omega
theorem cntF_max (f : Nat → Bool) : ∀ N, cntF f N ≤ N
  | 0 => Nat.le_refl _
  | N + 1 => by
    have := cntF_max f N
    simp only [cntF]
    cases f N <;> simp <;> omega
end
section
/- The document's again: the walk. -/
/-- What Ends answers of the pattern t. -/
def EnC (D : Nat → Prop) (t : RT) (x : List UInt8) : Prop := Hid (∀ v sl f w, RV D w t v → (∀ b, D b → b < w.heap.size) → BL (x.length + 1) f sl w → Calls Tryd.prog 45 #[v, .string (bs x), sl] w (EiP (x.length + 1) (edF t x f) w))
def bcnt (N : Nat) (s : Value) (w : World) : Nat := match s with
  | .slice (some a) _ _ => cntF (fun j => match w.cell? ⟨a.block, j, none⟩ with | some (.bool b) => b | _ => false) N
  | _ => 0
theorem BL.cell {N : Nat} {f : Nat → Bool} {g n c : Nat} {w : World} (h : BL N f (.slice (some ⟨g, 0, none⟩) n c) w) (j : Nat) (hj : j < N) : w.cell? ⟨g, j, none⟩ = some (.bool (f j)) := by
  obtain ⟨g', h1, h2⟩ := h
  simp only [Value.slice.injEq, Option.some.injEq, Addr.mk.injEq] at h1
  obtain ⟨⟨rfl, -, -⟩, -, -⟩ := h1
  rw [cell_of_row w g j _ 4 (0, 0) h2, fbA_get N f j hj]
theorem BL.cnt {N : Nat} {f : Nat → Bool} {s : Value} {w : World} (h : BL N f s w) : bcnt N s w = cntF f N := by
  have h' := h
  obtain ⟨g, rfl, h2⟩ := h
  unfold bcnt
  exact cnt_congr fun j hj => by rw [h'.cell j hj]
theorem BL.form {N : Nat} {f : Nat → Bool} {s : Value} {w : World} (h : BL N f s w) : ∃ g, s = .slice (some ⟨g, 0, none⟩) N N ∧ g < w.heap.size := by
  obtain ⟨g, rfl, h2⟩ := h
  exact ⟨g, rfl, (Array.getElem?_eq_some_iff.1 h2).1⟩
set_option maxHeartbeats 8000000 in
theorem again_walk {D : Nat → Prop} {t : RT} {x : List UInt8} {v sl : Value} {f : Nat → Bool} {w : World} (hx : x.length ≤ 900) (hD : ∀ b, D b → b < w.heap.size) (h : RV D w t v) (hf : BL (x.length + 1) f sl w) (hI : EnC D t x) :
    Calls Tryd.prog 64 #[v, .string (bs x), sl] w (EiP (x.length + 1) (stF t x f) w) := by
  obtain ⟨k, u, p, n, c, rfl⟩ := h.form2
  obtain ⟨N, hN⟩ : ∃ N, x.length + 1 = N := ⟨_, rfl⟩
  rw [hN] at hf ⊢
  have HV := Lib.hid h
  have S0 := Lib.hid ((Sb.start w).alloc (.cells #[.int .i64 k, .int .u64 (u 0), .int .u64 (u 1), .int .u64 (u 2), .int .u64 (u 3), .slice p n c] 27))
  have HF := Lib.hid (hf.up ((Below.refl _ _).alloc (Nat.le_refl _) (.cells #[.int .i64 k, .int .u64 (u 0), .int .u64 (u 1), .int .u64 (u 2), .int .u64 (u 3), .slice p n c] 27)))
  obtain ⟨gs, rfl, hgs⟩ := hf.form
  clear hf h
  go_enter Tryd.func64, Tryd.ntmps64
  go_wp2_with fail
  go_loopw [7] (fun s wr => ∃ h : Nat → Bool, Hid (BL N h s wr) ∧ Hid ((∀ j, j ≤ x.length → f j = true → h j = true) ∧ ∀ j, j ≤ x.length → h j = true → stF t x f j = true) ∧ Hid (Sb w wr [(w.heap.size, .cells #[.int .i64 k, .int .u64 (u 0), .int .u64 (u 1), .int .u64 (u 2), .int .u64 (u 3), .slice p n c] 27)])) (fun s wr => N - bcnt N s wr)
  case atStart => exact ⟨f, HF, Lib.hid ⟨fun j _ h => h, st_from⟩, S0⟩
  case round =>
    obtain ⟨h, HB, HP, HS⟩ := hrel
    clear S0 HF
    obtain ⟨g1, hsl, hg1⟩ := HB.out.form
    subst hsl
    have HC0 := Lib.hid HB.out.cnt
    have Q := HS.out
    have a0 := Q.cell 0
    have a1 := Q.cell 1
    have a2 := Q.cell 2
    have a3 := Q.cell 3
    have a4 := Q.cell 4
    have a5 := Q.cell 5
    have HC := Lib.hid (hI.out (.agg #[.int .i64 k, .int .u64 (u 0), .int .u64 (u 1), .int .u64 (u 2), .int .u64 (u 3), .slice p n c]) (.slice (some ⟨g1, 0, none⟩) N N) h wr (RV.mono (fun b h => h) (fun b hb _ => Q.1.block b (hD b hb)) HV.out) (fun b hb => Nat.lt_of_lt_of_le (hD b hb) Q.1.size) (by rw [hN]; exact HB.out))
    rw [hN] at HC
    clear Q
    go_wp2_with fail
    refine HC.out.mono ?_
    rintro _ w1 ⟨⟨v1, rfl, hv1⟩, hb⟩
    have HB1 := Lib.hid (HB.out.up hb)
    have HS1 := Lib.hid (HS.out.up hb)
    have HE := Lib.hid (eith5_any (by omega) HB1.out hv1)
    obtain ⟨g2, rfl, hg2⟩ := hv1.form
    clear hb hv1 HB HS HC a0 a1 a2 a3 a4 a5
    go_wp2_with fail
    refine HE.out.mono ?_
    rintro _ w2 ⟨⟨v2, rfl, hv2⟩, hb⟩
    obtain ⟨h', hh'⟩ : ∃ h' : Nat → Bool, (fun j => h j || edF t x h j) = h' := ⟨_, rfl⟩
    rw [hh'] at hv2
    have HH := Lib.hid hh'
    have HB2 := Lib.hid (HB1.out.up hb)
    have HS2 := Lib.hid (HS1.out.up hb)
    have HN := Lib.hid hv2
    obtain ⟨g3, rfl, hg3⟩ := hv2.form
    clear hb hv2 HB1 HS1 HE hh'
    go_wp2_with fail
    go_loopw [9, 10] (fun sb i wr => ∃ (m : Nat) (b : Bool), m ≤ N ∧ i = .int .i64 (m : Nat) ∧ sb = .bool b ∧ Hid (b = true ↔ ∀ j, j < m → h j = h' j) ∧ Hid (BL N h (.slice (some ⟨g1, 0, none⟩) N N) wr) ∧ Hid (BL N h' (.slice (some ⟨g3, 0, none⟩) N N) wr) ∧ Hid (Sb w wr [(w.heap.size, .cells #[.int .i64 k, .int .u64 (u 0), .int .u64 (u 1), .int .u64 (u 2), .int .u64 (u 3), .slice p n c] 27)])) (fun _ i _ => N - (intOf i).toNat)
    case atStart => exact ⟨0, true, by omega, rfl, rfl, Lib.hid (by simp), HB2, HN, HS2⟩
    clear HB2 HN HS2
    case round =>
      obtain ⟨m, b, hm, rfl, rfl, HQ, HB, HN, HS⟩ := hrel
      by_cases hlt : m < N
      · have hlt' : (m : Int) < (N : Int) := by omega
        have c1 : wr.cell? ⟨g1, m, none⟩ = some (.bool (h m)) := HB.out.cell m hlt
        have c3 : wr.cell? ⟨g3, m, none⟩ = some (.bool (h' m)) := HN.out.cell m hlt
        have HQ2 : Hid ((b && (h m == h' m)) = true ↔ ∀ j, j < m + 1 → h j = h' j) := Lib.hid (by
          rw [Bool.and_eq_true, HQ.out, beq_iff_eq]
          constructor
          · rintro ⟨h1, h2⟩ j hj
            by_cases e : j = m
            · subst e; exact h2
            · exact h1 j (by omega)
          · intro h1
            exact ⟨fun j hj => h1 j (by omega), h1 m (by omega)⟩)
        generalize h m = hm1 at *
        generalize h' m = hm2 at *
        clear HQ
        cases b <;> cases hm1 <;> cases hm2
        all_goals
          go_wp2_with fail
          go_quiet (fail)
          go_wp2_with fail
          go_roundw
          case rel => exact ⟨m + 1, _, by omega, by go_num, rfl, HQ2, HB, HN, Lib.hid (HS.out.drewN _)⟩
          case measure => simp [intOf]; omega
      · obtain rfl : m = N := by omega
        have hlt' : ¬ (m : Int) < (m : Int) := by omega
        cases b with
        | true =>
          have hall := HQ.out.1 rfl
          have HR : Hid (BL m (stF t x f) (.slice (some ⟨g1, 0, none⟩) m m) wr) := Lib.hid (HB.out.congr fun j hj => st_of HP.out.1 HP.out.2 (fun i hi he => by
            have h1 := hall i (by omega)
            rw [← HH.out] at h1
            simp only [he, Bool.or_true] at h1
            exact h1) j (by omega))
          clear HB HN HQ hall
          go_wp2_with fail
          go_ret
          exact ⟨⟨_, rfl, HR.out⟩, HS.out.1⟩
        | false =>
          have hne : ¬ ∀ j, j < m → h j = h' j := fun e => by have := HQ.out.2 e; cases this
          have hmono : ∀ j, j < m → h j = true → h' j = true := fun j _ hj => by rw [← HH.out]; simp [hj]
          have hlt2 : cntF h m < cntF h' m := cntF_lt m hmono (by
            by_cases e : ∃ j, j < m ∧ h j ≠ h' j
            · exact e
            · exact absurd (fun j hj => by by_cases e2 : h j = h' j; exact e2; exact absurd ⟨j, hj, e2⟩ e) hne)
          have hmax := cntF_max h' m
          have HCN := Lib.hid HN.out.cnt
          have HP2 : Hid ((∀ j, j ≤ x.length → f j = true → h' j = true) ∧ ∀ j, j ≤ x.length → h' j = true → stF t x f j = true) := Lib.hid ⟨fun j hj hf => hmono j (by omega) (HP.out.1 j hj hf), fun j hj hh => by
            rw [← HH.out] at hh
            exact st_step HP.out.2 j hj hh⟩
          clear HB HQ hne hmono
          go_wp2_with fail
          go_roundw
          case rel => exact ⟨h', HN, HP2, HS⟩
          case measure => rw [HCN.out, HC0.out]; omega
end
section
/- The document's Ends: the walks. -/
theorem cp_row (N : Nat) (f g : Nat → Bool) : ((fbA N g).toList.take 0 ++ ((fbA N f).toList ++ (fbA N g).toList.drop (0 + (fbA N f).toList.length))).toArray = fbA N f := by
  rw [List.take_zero, List.nil_append, List.drop_eq_nil_of_le (by simp [fbA]), List.append_nil]
/-- The world of Ends, its list made. -/
def EW (w : World) (N : Nat) (box : Array Value) (g : Nat → Bool) (gs : Nat) (f : Nat → Bool) (y : World) : Prop :=
  y.heap[w.heap.size]? = some (.cells box 27 (0, 0)) ∧ y.heap[w.heap.size + 1]? = some (.cells (fbA N g) 4 (0, 0)) ∧ BL N f (.slice (some ⟨gs, 0, none⟩) N N) y ∧ Below w.heap.size w y
theorem lg_mk5 (u : Nat → Int) (t : RT) (w : List UInt8) : Lg (.mk 5 u [t]) w ↔ Sta (Lg t) w := by
  rw [Lg]
  simp only [show ¬ ((5 : Int) = 0) by decide, show ¬ ((5 : Int) = 1) by decide, show ¬ ((5 : Int) = 2) by decide, show ¬ ((5 : Int) = 3) by decide, show ¬ ((5 : Int) = 4) by decide, if_false, if_true, lgH_one]
theorem lg_mk6 (u : Nat → Int) (t : RT) (w : List UInt8) : Lg (.mk 6 u [t]) w ↔ ∃ a b, w = a ++ b ∧ Lg t a ∧ Sta (Lg t) b := by
  rw [Lg]
  simp only [show ¬ ((6 : Int) = 0) by decide, show ¬ ((6 : Int) = 1) by decide, show ¬ ((6 : Int) = 2) by decide, show ¬ ((6 : Int) = 3) by decide, show ¬ ((6 : Int) = 4) by decide, show ¬ ((6 : Int) = 5) by decide, if_false, if_true, lgH_one]
theorem lg_mk7 (u : Nat → Int) (t : RT) (w : List UInt8) : Lg (.mk 7 u [t]) w ↔ w = [] ∨ Lg t w := by
  rw [Lg]
  simp only [show ¬ ((7 : Int) = 0) by decide, show ¬ ((7 : Int) = 1) by decide, show ¬ ((7 : Int) = 2) by decide, show ¬ ((7 : Int) = 3) by decide, show ¬ ((7 : Int) = 4) by decide, show ¬ ((7 : Int) = 5) by decide, show ¬ ((7 : Int) = 6) by decide, if_false, lgH_one]
theorem ed_5 (u : Nat → Int) (t : RT) (x : List UInt8) (f : Nat → Bool) : edF (.mk 5 u [t]) x f = stF t x f := edG_congr (lg_mk5 u t) x f
theorem ed_6 (u : Nat → Int) (t : RT) (x : List UInt8) (f : Nat → Bool) : edF (.mk 6 u [t]) x f = stF t x (edF t x f) := by
  unfold edF stF
  rw [edG_congr (lg_mk6 u t), ed_cat]
theorem ed_7 (u : Nat → Int) (t : RT) (x : List UInt8) (f : Nat → Bool) (j : Nat) (hj : j ≤ x.length) : edF (.mk 7 u [t]) x f j = (f j || edF t x f j) := by
  unfold edF
  rw [edG_congr (lg_mk7 u t), ed_or, ed_nil (fun w => Iff.rfl) x f j hj]
theorem ed_3_0 (u : Nat → Int) (x : List UInt8) (f : Nat → Bool) (j : Nat) (hj : j ≤ x.length) : edF (.mk 3 u []) x f j = f j := ed_nil (fun w => by rw [lg_mk3, LgR]) x f j hj
theorem ed_3_s (u : Nat → Int) (ps : List RT) (t : RT) (x : List UInt8) (f : Nat → Bool) : edF (.mk 3 u (ps ++ [t])) x f = edF t x (edF (.mk 3 u ps) x f) := by
  unfold edF
  rw [edG_congr (Q := fun w => ∃ a b, w = a ++ b ∧ Lg (.mk 3 u ps) a ∧ Lg t b) (fun w => by
    rw [lg_mk3, lgR_snoc]
    simp only [lg_mk3]) x f, ed_cat]
theorem ed_4_0 (u : Nat → Int) (x : List UInt8) (f : Nat → Bool) (j : Nat) : edF (.mk 4 u []) x f j = false := by
  rw [Bool.eq_false_iff]
  intro h
  obtain ⟨i, _, _, _, h4⟩ := edG_iff.1 h
  rw [lg_mk4, LgC] at h4
  exact h4
theorem ed_4_s (u : Nat → Int) (ps : List RT) (t : RT) (x : List UInt8) (f : Nat → Bool) (j : Nat) : edF (.mk 4 u (ps ++ [t])) x f j = (edF (.mk 4 u ps) x f j || edF t x f j) := by
  unfold edF
  rw [edG_congr (Q := fun w => Lg (.mk 4 u ps) w ∨ Lg t w) (fun w => by
    rw [lg_mk4, lgC_snoc, lg_mk4]) x f, ed_or]
theorem ed_2 (u : Nat → Int) (x : List UInt8) (f : Nat → Bool) (j : Nat) : edF (.mk 2 u []) x f j = true ↔ ∃ i, ∃ h : i < x.length, j = i + 1 ∧ f i = true ∧ fOf u (x[i]).toNat = true := by
  unfold edF
  rw [edG_iff]
  constructor
  · rintro ⟨i, h1, h2, h3, h4⟩
    rw [show RT.mk 2 u [] = setT u from rfl, lg_set] at h4
    obtain ⟨c, h5, h6⟩ := h4
    have hl := segL_len h2 h3
    rw [h5] at hl
    simp at hl
    have hi : i < x.length := by omega
    refine ⟨i, hi, by omega, h1, ?_⟩
    have e : (segL x i j)[0]? = some x[i] := by
      unfold segL
      rw [List.getElem?_take_of_lt (by omega), List.getElem?_drop, Nat.add_zero, List.getElem?_eq_getElem hi]
    rw [h5] at e
    simp at e
    rw [← e]; exact h6
  · rintro ⟨i, hi, rfl, h1, h2⟩
    refine ⟨i, h1, by omega, by omega, ?_⟩
    rw [show RT.mk 2 u [] = setT u from rfl, lg_set]
    refine ⟨x[i], ?_, h2⟩
    unfold segL
    rw [show i + 1 - i = 1 by omega, List.drop_eq_getElem_cons hi]
    rfl
set_option maxHeartbeats 8000000 in
theorem ends_0 {D : Nat → Prop} {u : Nat → Int} {ps : List RT} {x : List UInt8} {v sl : Value} {f : Nat → Bool} {w : World} (hx : x.length ≤ 900) (hD : ∀ b, D b → b < w.heap.size) (hl : ps.length ≤ 9223372036854775806) (h : RV D w (.mk 0 u ps) v) (hf : BL (x.length + 1) f sl w) :
    Calls Tryd.prog 45 #[v, .string (bs x), sl] w (EiP (x.length + 1) (edF (.mk 0 u ps) x f) w) := by
  obtain ⟨i0, hi, hz0, hz1, hz2⟩ := info_parts infoB
  obtain ⟨p, c, rfl, hp⟩ := h.parts
  have HP := Lib.hid hp
  obtain ⟨N, hN⟩ : ∃ N, x.length + 1 = N := ⟨_, rfl⟩
  rw [hN] at hf ⊢
  have hNi : ((x.length : Nat) : Int) + 1 = (N : Int) := by omega
  have hF := hf
  obtain ⟨gs, rfl, hgs⟩ := hf.form
  have HF := Lib.hid hF
  clear h hp hf hF
  have B0 := Lib.hid ((Below.refl w.heap.size w).alloc (Nat.le_refl _) (.cells #[.int .i64 0, .int .u64 (u 0), .int .u64 (u 1), .int .u64 (u 2), .int .u64 (u 3), .slice p ps.length c] 27))
  have X0 := Lib.hid (heap_alloc_last w (.cells #[.int .i64 0, .int .u64 (u 0), .int .u64 (u 1), .int .u64 (u 2), .int .u64 (u 3), .slice p ps.length c] 27))
  have hsw : (w.alloc (.cells #[.int .i64 0, .int .u64 (u 0), .int .u64 (u 1), .int .u64 (u 2), .int .u64 (u 3), .slice p ps.length c] 27)).heap.size = w.heap.size + 1 := by simp
  go_enter Tryd.func45, Tryd.ntmps45
  go_wp2_with (at_make; refine wpList_make_full _ rfl (.tmp 14) (.tmp 14) 73 rfl w.heap.size 4 i0 (.bool false) 1 Tryd.underlying73 hi hz0 hz1 .i64 .i64 _ _ N rfl rfl ?l1 ?l2 ?b2 ?b3 ?b4 ?_)
  case l1 => first | exact hNi | (simp; omega) | omega
  case l2 => first | exact hNi | (simp; omega) | omega
  case b2 => rw [hz2]; omega
  case b3 => unfold maxLen; omega
  case b4 => simp
  intro w1 hown hgrow
  first | rw [made_fb] at hown | rw [hsw, made_fb] at hown
  have HG := Lib.hid (own_fb hown)
  have HW := Lib.hid (below_grown (B := w.heap.size) B0.out hgrow (fun g h => by cases h) (by rw [hsw]; omega))
  have hX1 : w1.heap[w.heap.size]? = some (.cells #[.int .i64 0, .int .u64 (u 0), .int .u64 (u 1), .int .u64 (u 2), .int .u64 (u 3), .slice p ps.length c] 27 (0, 0)) := (hgrow.block _ (by rw [hsw]; omega) (fun h => by cases h)).trans X0.out
  have HE0 := Lib.hid ((⟨hX1, HG.out, HF.out.up HW.out, HW.out⟩ : EW w N #[.int .i64 0, .int .u64 (u 0), .int .u64 (u 1), .int .u64 (u 2), .int .u64 (u 3), .slice p ps.length c] (fun _ => false) gs f w1))
  clear hown hgrow HG HW hX1 X0 B0 HF
  have q0 : w1.cell? ⟨w.heap.size, 0, none⟩ = some (.int .i64 0) := cell_of_row w1 _ 0 _ 27 (0, 0) HE0.out.1
  have HR : Hid (BL N (edF (.mk 0 u ps) x f) (.slice (some ⟨w.heap.size + 1, 0, none⟩) N N) w1) := Lib.hid ⟨_, rfl, by rw [HE0.out.2.1, fbA_congr fun j _ => (ed_0 u ps x f j).symm]⟩
  go_wp2_with fail
  go_ret
  exact ⟨⟨_, rfl, HR.out⟩, HE0.out.2.2.2⟩
set_option maxHeartbeats 8000000 in
theorem ends_1 {D : Nat → Prop} {u : Nat → Int} {ps : List RT} {x : List UInt8} {v sl : Value} {f : Nat → Bool} {w : World} (hx : x.length ≤ 900) (hD : ∀ b, D b → b < w.heap.size) (hl : ps.length ≤ 9223372036854775806) (h : RV D w (.mk 1 u ps) v) (hf : BL (x.length + 1) f sl w) :
    Calls Tryd.prog 45 #[v, .string (bs x), sl] w (EiP (x.length + 1) (edF (.mk 1 u []) x f) w) := by
  obtain ⟨i0, hi, hz0, hz1, hz2⟩ := info_parts infoB
  obtain ⟨p, c, rfl, hp⟩ := h.parts
  have HP := Lib.hid hp
  obtain ⟨N, hN⟩ : ∃ N, x.length + 1 = N := ⟨_, rfl⟩
  rw [hN] at hf ⊢
  have hNi : ((x.length : Nat) : Int) + 1 = (N : Int) := by omega
  have hF := hf
  obtain ⟨gs, rfl, hgs⟩ := hf.form
  have HF := Lib.hid hF
  clear h hp hf hF
  have B0 := Lib.hid ((Below.refl w.heap.size w).alloc (Nat.le_refl _) (.cells #[.int .i64 1, .int .u64 (u 0), .int .u64 (u 1), .int .u64 (u 2), .int .u64 (u 3), .slice p ps.length c] 27))
  have X0 := Lib.hid (heap_alloc_last w (.cells #[.int .i64 1, .int .u64 (u 0), .int .u64 (u 1), .int .u64 (u 2), .int .u64 (u 3), .slice p ps.length c] 27))
  have hsw : (w.alloc (.cells #[.int .i64 1, .int .u64 (u 0), .int .u64 (u 1), .int .u64 (u 2), .int .u64 (u 3), .slice p ps.length c] 27)).heap.size = w.heap.size + 1 := by simp
  go_enter Tryd.func45, Tryd.ntmps45
  go_wp2_with (at_make; refine wpList_make_full _ rfl (.tmp 14) (.tmp 14) 73 rfl w.heap.size 4 i0 (.bool false) 1 Tryd.underlying73 hi hz0 hz1 .i64 .i64 _ _ N rfl rfl ?l1 ?l2 ?b2 ?b3 ?b4 ?_)
  case l1 => first | exact hNi | (simp; omega) | omega
  case l2 => first | exact hNi | (simp; omega) | omega
  case b2 => rw [hz2]; omega
  case b3 => unfold maxLen; omega
  case b4 => simp
  intro w1 hown hgrow
  first | rw [made_fb] at hown | rw [hsw, made_fb] at hown
  have HG := Lib.hid (own_fb hown)
  have HW := Lib.hid (below_grown (B := w.heap.size) B0.out hgrow (fun g h => by cases h) (by rw [hsw]; omega))
  have hX1 : w1.heap[w.heap.size]? = some (.cells #[.int .i64 1, .int .u64 (u 0), .int .u64 (u 1), .int .u64 (u 2), .int .u64 (u 3), .slice p ps.length c] 27 (0, 0)) := (hgrow.block _ (by rw [hsw]; omega) (fun h => by cases h)).trans X0.out
  have HE0 := Lib.hid ((⟨hX1, HG.out, HF.out.up HW.out, HW.out⟩ : EW w N #[.int .i64 1, .int .u64 (u 0), .int .u64 (u 1), .int .u64 (u 2), .int .u64 (u 3), .slice p ps.length c] (fun _ => false) gs f w1))
  clear hown hgrow HG HW hX1 X0 B0 HF
  have q0 : w1.cell? ⟨w.heap.size, 0, none⟩ = some (.int .i64 1) := cell_of_row w1 _ 0 _ 27 (0, 0) HE0.out.1
  obtain ⟨CS, hCS⟩ : ∃ CS, (fbA N f).toList = CS := ⟨_, rfl⟩
  obtain ⟨CU, hCU⟩ : ∃ CU, (fbA N fun _ => false).toList = CU := ⟨_, rfl⟩
  have lCS : CS.length = N := by rw [← hCS]; simp [fbA]
  have lCU : CU.length = N := by rw [← hCU]; simp [fbA]
  have hG1 : w1.heap[w.heap.size + 1]? = some (.cells CU.toArray 4 (0, 0)) := by rw [HE0.out.2.1, ← hCU]
  have hone : ∀ v ∈ CS, v.oneCell' = true := by intro v hv; rw [← hCS] at hv; simp [fbA] at hv; obtain ⟨_, _, rfl⟩ := hv; rfl
  have hsrc : ∀ j v, CS[j]? = some v → w1.cell? ((⟨gs, 0, none⟩ : Addr).add j) = some v := fun j v hv => by
    have hj : j < N := by have := (List.getElem?_eq_some_iff.1 hv).1; omega
    rw [Addr.add_mid, Nat.zero_add, HE0.out.2.2.1.cell j hj]
    rw [← hCS, Array.getElem?_toList, fbA_get N f j hj] at hv
    exact hv
  have HSRC := Lib.hid hsrc
  have HG1 := Lib.hid hG1
  have HONE := Lib.hid hone
  have HCS := Lib.hid hCS
  have HCU := Lib.hid hCU
  have lCS' := Lib.hid lCS
  have lCU' := Lib.hid lCU
  clear hsrc hG1 hone hCS hCU lCS lCU
  go_wp2_with (refine wpList_copy_splice rfl (.tmp 20) (.tmp 21) 73 73 rfl 4 Tryd.underlying73 (by kernel_rfl) (some ⟨w.heap.size + 1, 0, none⟩) (some ⟨gs, 0, none⟩) N N N N rfl rfl (w.heap.size + 1) 0 CU 4 HG1.out CS (lCS'.out.trans (Nat.min_self N).symm) (fun _ => ⟨rfl, _, rfl, HSRC.out⟩) (by rw [lCS'.out, lCU'.out]; omega) HONE.out (w.heap.size + 1) w1 (Below.refl _ _) (Nat.le_refl _) ?_)
  intro w2 hrow hb2
  have hsp : (splice CU 0 CS).toArray = fbA N f := by
    unfold splice
    rw [List.take_zero, List.nil_append, List.drop_eq_nil_of_le (by rw [lCS'.out, lCU'.out]; omega), List.append_nil, ← HCS.out]
  have hrow2 := hrow.out
  rw [hsp] at hrow2
  have HE1 := Lib.hid ((⟨(hb2.block w.heap.size (by omega)).trans HE0.out.1, hrow2, by
    obtain ⟨g', h1, h2⟩ := HE0.out.2.2.1
    refine ⟨g', h1, (hb2.block g' ?_).trans h2⟩
    simp only [Value.slice.injEq, Option.some.injEq, Addr.mk.injEq] at h1
    omega, HE0.out.2.2.2.trans (hb2.mono (by omega))⟩ : EW w N #[.int .i64 1, .int .u64 (u 0), .int .u64 (u 1), .int .u64 (u 2), .int .u64 (u 3), .slice p ps.length c] f gs f w2))
  clear HSRC HG1 HONE HCS HCU lCS' lCU' HE0 hrow hrow2 hb2 hsp
  have HR : Hid (BL N (edF (.mk 1 u []) x f) (.slice (some ⟨w.heap.size + 1, 0, none⟩) N N) w2) := Lib.hid ⟨_, rfl, by rw [HE1.out.2.1, fbA_congr fun j hj => (ed_1 u x f j (by omega)).symm]⟩
  clear q0
  go_wp2_with fail
  go_ret
  exact ⟨⟨_, rfl, HR.out⟩, HE1.out.2.2.2⟩
set_option maxHeartbeats 8000000 in
theorem ends_3 {D : Nat → Prop} {u : Nat → Int} {ps : List RT} {x : List UInt8} {v sl : Value} {f : Nat → Bool} {w : World} (hx : x.length ≤ 900) (hD : ∀ b, D b → b < w.heap.size) (hl : ps.length ≤ 9223372036854775806) (h : RV D w (.mk 3 u ps) v) (hf : BL (x.length + 1) f sl w) (hI : ∀ i (hi : i < ps.length), EnC D ps[i] x) :
    Calls Tryd.prog 45 #[v, .string (bs x), sl] w (EiP (x.length + 1) (edF (.mk 3 u ps) x f) w) := by
  obtain ⟨i0, hi, hz0, hz1, hz2⟩ := info_parts infoB
  obtain ⟨p, c, rfl, hp⟩ := h.parts
  have HP := Lib.hid hp
  obtain ⟨N, hN⟩ : ∃ N, x.length + 1 = N := ⟨_, rfl⟩
  rw [hN] at hf ⊢
  have hNi : ((x.length : Nat) : Int) + 1 = (N : Int) := by omega
  have hF := hf
  obtain ⟨gs, rfl, hgs⟩ := hf.form
  have HF := Lib.hid hF
  clear h hp hf hF
  have B0 := Lib.hid ((Below.refl w.heap.size w).alloc (Nat.le_refl _) (.cells #[.int .i64 3, .int .u64 (u 0), .int .u64 (u 1), .int .u64 (u 2), .int .u64 (u 3), .slice p ps.length c] 27))
  have X0 := Lib.hid (heap_alloc_last w (.cells #[.int .i64 3, .int .u64 (u 0), .int .u64 (u 1), .int .u64 (u 2), .int .u64 (u 3), .slice p ps.length c] 27))
  have hsw : (w.alloc (.cells #[.int .i64 3, .int .u64 (u 0), .int .u64 (u 1), .int .u64 (u 2), .int .u64 (u 3), .slice p ps.length c] 27)).heap.size = w.heap.size + 1 := by simp
  go_enter Tryd.func45, Tryd.ntmps45
  go_wp2_with (at_make; refine wpList_make_full _ rfl (.tmp 14) (.tmp 14) 73 rfl w.heap.size 4 i0 (.bool false) 1 Tryd.underlying73 hi hz0 hz1 .i64 .i64 _ _ N rfl rfl ?l1 ?l2 ?b2 ?b3 ?b4 ?_)
  case l1 => first | exact hNi | (simp; omega) | omega
  case l2 => first | exact hNi | (simp; omega) | omega
  case b2 => rw [hz2]; omega
  case b3 => unfold maxLen; omega
  case b4 => simp
  intro w1 hown hgrow
  first | rw [made_fb] at hown | rw [hsw, made_fb] at hown
  have HG := Lib.hid (own_fb hown)
  have HW := Lib.hid (below_grown (B := w.heap.size) B0.out hgrow (fun g h => by cases h) (by rw [hsw]; omega))
  have hX1 : w1.heap[w.heap.size]? = some (.cells #[.int .i64 3, .int .u64 (u 0), .int .u64 (u 1), .int .u64 (u 2), .int .u64 (u 3), .slice p ps.length c] 27 (0, 0)) := (hgrow.block _ (by rw [hsw]; omega) (fun h => by cases h)).trans X0.out
  have HE0 := Lib.hid ((⟨hX1, HG.out, HF.out.up HW.out, HW.out⟩ : EW w N #[.int .i64 3, .int .u64 (u 0), .int .u64 (u 1), .int .u64 (u 2), .int .u64 (u 3), .slice p ps.length c] (fun _ => false) gs f w1))
  clear hown hgrow HG HW hX1 X0 B0 HF
  have q0 : w1.cell? ⟨w.heap.size, 0, none⟩ = some (.int .i64 3) := cell_of_row w1 _ 0 _ 27 (0, 0) HE0.out.1
  obtain ⟨CS, hCS⟩ : ∃ CS, (fbA N f).toList = CS := ⟨_, rfl⟩
  obtain ⟨CU, hCU⟩ : ∃ CU, (fbA N fun _ => false).toList = CU := ⟨_, rfl⟩
  have lCS : CS.length = N := by rw [← hCS]; simp [fbA]
  have lCU : CU.length = N := by rw [← hCU]; simp [fbA]
  have hG1 : w1.heap[w.heap.size + 1]? = some (.cells CU.toArray 4 (0, 0)) := by rw [HE0.out.2.1, ← hCU]
  have hone : ∀ v ∈ CS, v.oneCell' = true := by intro v hv; rw [← hCS] at hv; simp [fbA] at hv; obtain ⟨_, _, rfl⟩ := hv; rfl
  have hsrc : ∀ j v, CS[j]? = some v → w1.cell? ((⟨gs, 0, none⟩ : Addr).add j) = some v := fun j v hv => by
    have hj : j < N := by have := (List.getElem?_eq_some_iff.1 hv).1; omega
    rw [Addr.add_mid, Nat.zero_add, HE0.out.2.2.1.cell j hj]
    rw [← hCS, Array.getElem?_toList, fbA_get N f j hj] at hv
    exact hv
  have HSRC := Lib.hid hsrc
  have HG1 := Lib.hid hG1
  have HONE := Lib.hid hone
  have HCS := Lib.hid hCS
  have HCU := Lib.hid hCU
  have lCS' := Lib.hid lCS
  have lCU' := Lib.hid lCU
  clear hsrc hG1 hone hCS hCU lCS lCU
  go_wp2_with (refine wpList_copy_splice rfl (.tmp 51) (.tmp 52) 73 73 rfl 4 Tryd.underlying73 (by kernel_rfl) (some ⟨w.heap.size + 1, 0, none⟩) (some ⟨gs, 0, none⟩) N N N N rfl rfl (w.heap.size + 1) 0 CU 4 HG1.out CS (lCS'.out.trans (Nat.min_self N).symm) (fun _ => ⟨rfl, _, rfl, HSRC.out⟩) (by rw [lCS'.out, lCU'.out]; omega) HONE.out (w.heap.size + 1) w1 (Below.refl _ _) (Nat.le_refl _) ?_)
  intro w2 hrow hb2
  have hsp : (splice CU 0 CS).toArray = fbA N f := by
    unfold splice
    rw [List.take_zero, List.nil_append, List.drop_eq_nil_of_le (by rw [lCS'.out, lCU'.out]; omega), List.append_nil, ← HCS.out]
  have hrow2 := hrow.out
  rw [hsp] at hrow2
  have HE1 := Lib.hid ((⟨(hb2.block w.heap.size (by omega)).trans HE0.out.1, hrow2, by
    obtain ⟨g', h1, h2⟩ := HE0.out.2.2.1
    refine ⟨g', h1, (hb2.block g' ?_).trans h2⟩
    simp only [Value.slice.injEq, Option.some.injEq, Addr.mk.injEq] at h1
    omega, HE0.out.2.2.2.trans (hb2.mono (by omega))⟩ : EW w N #[.int .i64 3, .int .u64 (u 0), .int .u64 (u 1), .int .u64 (u 2), .int .u64 (u 3), .slice p ps.length c] f gs f w2))
  clear HSRC HG1 HONE HCS HCU lCS' lCU' HE0 hrow hrow2 hb2 hsp
  clear q0
  have q0 : w2.cell? ⟨w.heap.size, 0, none⟩ = some (.int .i64 3) := cell_of_row w2 _ 0 _ 27 (0, 0) HE1.out.1
  have HR0 : Hid (BL N (edF (.mk 3 u (ps.take 0)) x f) (.slice (some ⟨w.heap.size + 1, 0, none⟩) N N) w2) := Lib.hid ⟨_, rfl, by rw [HE1.out.2.1, fbA_congr fun j hj => (ed_3_0 u x f j (by omega)).symm]; rfl⟩
  have HX0 := Lib.hid HE1.out.1
  have HB0 := Lib.hid HE1.out.2.2.2
  clear HE1
  go_wp2_with fail
  go_loopw [7, 10] (fun s i wr => ∃ j : Nat, j ≤ ps.length ∧ i = .int .i64 (j : Nat) ∧ Hid (BL N (edF (.mk 3 u (ps.take j)) x f) s wr) ∧ Hid (wr.heap[w.heap.size]? = some (.cells #[.int .i64 3, .int .u64 (u 0), .int .u64 (u 1), .int .u64 (u 2), .int .u64 (u 3), .slice p ps.length c] 27 (0, 0))) ∧ Hid (Below w.heap.size w wr)) (fun _ i _ => ps.length - (intOf i).toNat)
  case atStart => exact ⟨0, by omega, rfl, HR0, HX0, HB0⟩
  clear HR0 HX0 HB0 q0
  case round =>
    obtain ⟨j, hj, rfl, HR, HX, HB⟩ := hrel
    have q5 : wr.cell? ⟨w.heap.size, 5, none⟩ = some (.slice p ps.length c) := cell_of_row wr _ 5 _ 27 (0, 0) HX.out
    obtain ⟨g7, hsl, hg7⟩ := HR.out.form
    subst hsl
    by_cases hlt : j < ps.length
    · have hne : ps ≠ [] := by intro e; subst e; simp at hlt
      have hlt3 : (j : Int) < ((ps.length : Nat) : Int) := by omega
      have hwl := HB.out.size
      have hsw2 : w.heap.size < wr.heap.size := (Array.getElem?_eq_some_iff.1 HX.out).1
      obtain ⟨b, o, rfl, hDb, hx9⟩ := HP.out hne
      obtain ⟨k', u', p', n', c', hv, hcell⟩ := hx9 j hlt
      have hbw := hD b hDb
      have cc : ∀ i y, (nodeC k' u' (.slice p' n' c'))[i]? = some y → wr.cell? ⟨b, o + j * 6 + i, none⟩ = some y := fun i y hy => by
        rw [HB.out.cell (p := ⟨b, o + j * 6 + i, none⟩) hbw, ← hcell i y hy, show o + j * 6 + i = o + (6 * j + i) by omega]
      have d0 : wr.cell? ⟨b, o + j * 6, none⟩ = some (.int .i64 k') := by have h := cc 0 (.int .i64 k') rfl; simpa using h
      have d1 : wr.cell? ⟨b, o + j * 6 + 1, none⟩ = some (.int .u64 (u' 0)) := by have h := cc 1 (.int .u64 (u' 0)) rfl; simpa using h
      have d2 : wr.cell? ⟨b, o + j * 6 + 2, none⟩ = some (.int .u64 (u' 1)) := by have h := cc 2 (.int .u64 (u' 1)) rfl; simpa using h
      have d3 : wr.cell? ⟨b, o + j * 6 + 3, none⟩ = some (.int .u64 (u' 2)) := by have h := cc 3 (.int .u64 (u' 2)) rfl; simpa using h
      have d4 : wr.cell? ⟨b, o + j * 6 + 4, none⟩ = some (.int .u64 (u' 3)) := by have h := cc 4 (.int .u64 (u' 3)) rfl; simpa using h
      have d5 : wr.cell? ⟨b, o + j * 6 + 5, none⟩ = some (.slice p' n' c') := by have h := cc 5 (.slice p' n' c') rfl; simpa using h
      have HC := Lib.hid ((hI j hlt).out (.agg (nodeC k' u' (.slice p' n' c'))) (.slice (some ⟨g7, 0, none⟩) N N) (edF (.mk 3 u (ps.take j)) x f) wr (RV.mono (fun b h => h) (fun b hb _ => HB.out.block b (hD b hb)) hv) (fun b hb => Nat.lt_of_lt_of_le (hD b hb) HB.out.size) (by rw [hN]; exact HR.out))
      rw [hN] at HC
      unfold nodeC at HC
      clear hv hcell hx9 cc
      have HT : Hid (edF ps[j] x (edF (.mk 3 u (ps.take j)) x f) = edF (.mk 3 u (ps.take (j + 1))) x f) := Lib.hid (by rw [List.take_succ_eq_append_getElem hlt, ed_3_s])
      go_wp2_with fail
      refine HC.out.mono ?_
      rintro _ w7 ⟨⟨v7, rfl, hv7⟩, hb⟩
      rw [HT.out] at hv7
      have HR7 := Lib.hid hv7
      have HX7 := Lib.hid ((hb.block w.heap.size hsw2).trans HX.out)
      have HB7 := Lib.hid (HB.out.trans (hb.mono hwl))
      clear hb hv7 HC HR HX HB HT d0 d1 d2 d3 d4 d5 q5
      go_wp2_with fail
      go_roundw
      case rel => exact ⟨j + 1, by omega, by go_num, HR7, HX7, HB7⟩
      case measure => simp [intOf]; omega
    · obtain rfl : j = ps.length := by omega
      have hlt3 : ¬ ((ps.length : Nat) : Int) < ((ps.length : Nat) : Int) := by omega
      rw [List.take_length] at HR
      have q0 : wr.cell? ⟨w.heap.size, 0, none⟩ = some (.int .i64 3) := cell_of_row wr _ 0 _ 27 (0, 0) HX.out
      go_wp2_with fail
      go_ret
      exact ⟨⟨_, rfl, HR.out⟩, HB.out⟩
set_option maxHeartbeats 8000000 in
theorem ends_4 {D : Nat → Prop} {u : Nat → Int} {ps : List RT} {x : List UInt8} {v sl : Value} {f : Nat → Bool} {w : World} (hx : x.length ≤ 900) (hD : ∀ b, D b → b < w.heap.size) (hl : ps.length ≤ 9223372036854775806) (h : RV D w (.mk 4 u ps) v) (hf : BL (x.length + 1) f sl w) (hI : ∀ i (hi : i < ps.length), EnC D ps[i] x) :
    Calls Tryd.prog 45 #[v, .string (bs x), sl] w (EiP (x.length + 1) (edF (.mk 4 u ps) x f) w) := by
  obtain ⟨i0, hi, hz0, hz1, hz2⟩ := info_parts infoB
  obtain ⟨p, c, rfl, hp⟩ := h.parts
  have HP := Lib.hid hp
  obtain ⟨N, hN⟩ : ∃ N, x.length + 1 = N := ⟨_, rfl⟩
  rw [hN] at hf ⊢
  have hNi : ((x.length : Nat) : Int) + 1 = (N : Int) := by omega
  have hF := hf
  obtain ⟨gs, rfl, hgs⟩ := hf.form
  have HF := Lib.hid hF
  clear h hp hf hF
  have B0 := Lib.hid ((Below.refl w.heap.size w).alloc (Nat.le_refl _) (.cells #[.int .i64 4, .int .u64 (u 0), .int .u64 (u 1), .int .u64 (u 2), .int .u64 (u 3), .slice p ps.length c] 27))
  have X0 := Lib.hid (heap_alloc_last w (.cells #[.int .i64 4, .int .u64 (u 0), .int .u64 (u 1), .int .u64 (u 2), .int .u64 (u 3), .slice p ps.length c] 27))
  have hsw : (w.alloc (.cells #[.int .i64 4, .int .u64 (u 0), .int .u64 (u 1), .int .u64 (u 2), .int .u64 (u 3), .slice p ps.length c] 27)).heap.size = w.heap.size + 1 := by simp
  go_enter Tryd.func45, Tryd.ntmps45
  go_wp2_with (at_make; refine wpList_make_full _ rfl (.tmp 14) (.tmp 14) 73 rfl w.heap.size 4 i0 (.bool false) 1 Tryd.underlying73 hi hz0 hz1 .i64 .i64 _ _ N rfl rfl ?l1 ?l2 ?b2 ?b3 ?b4 ?_)
  case l1 => first | exact hNi | (simp; omega) | omega
  case l2 => first | exact hNi | (simp; omega) | omega
  case b2 => rw [hz2]; omega
  case b3 => unfold maxLen; omega
  case b4 => simp
  intro w1 hown hgrow
  first | rw [made_fb] at hown | rw [hsw, made_fb] at hown
  have HG := Lib.hid (own_fb hown)
  have HW := Lib.hid (below_grown (B := w.heap.size) B0.out hgrow (fun g h => by cases h) (by rw [hsw]; omega))
  have hX1 : w1.heap[w.heap.size]? = some (.cells #[.int .i64 4, .int .u64 (u 0), .int .u64 (u 1), .int .u64 (u 2), .int .u64 (u 3), .slice p ps.length c] 27 (0, 0)) := (hgrow.block _ (by rw [hsw]; omega) (fun h => by cases h)).trans X0.out
  have HE0 := Lib.hid ((⟨hX1, HG.out, HF.out.up HW.out, HW.out⟩ : EW w N #[.int .i64 4, .int .u64 (u 0), .int .u64 (u 1), .int .u64 (u 2), .int .u64 (u 3), .slice p ps.length c] (fun _ => false) gs f w1))
  clear hown hgrow HG HW hX1 X0 B0 HF
  have q0 : w1.cell? ⟨w.heap.size, 0, none⟩ = some (.int .i64 4) := cell_of_row w1 _ 0 _ 27 (0, 0) HE0.out.1
  have HR0 : Hid (BL N (edF (.mk 4 u (ps.take 0)) x f) (.slice (some ⟨w.heap.size + 1, 0, none⟩) N N) w1) := Lib.hid ⟨_, rfl, by rw [HE0.out.2.1, fbA_congr fun j hj => (ed_4_0 u x f j).symm]; rfl⟩
  have HX0 := Lib.hid HE0.out.1
  have HB0 := Lib.hid HE0.out.2.2.2
  have HF0 := Lib.hid HE0.out.2.2.1
  clear HE0
  go_wp2_with fail
  go_loopw [7, 11] (fun s i wr => ∃ j : Nat, j ≤ ps.length ∧ i = .int .i64 (j : Nat) ∧ Hid (BL N (edF (.mk 4 u (ps.take j)) x f) s wr) ∧ Hid (wr.heap[w.heap.size]? = some (.cells #[.int .i64 4, .int .u64 (u 0), .int .u64 (u 1), .int .u64 (u 2), .int .u64 (u 3), .slice p ps.length c] 27 (0, 0))) ∧ Hid (BL N f (.slice (some ⟨gs, 0, none⟩) N N) wr) ∧ Hid (Below w.heap.size w wr)) (fun _ i _ => ps.length - (intOf i).toNat)
  case atStart => exact ⟨0, by omega, rfl, HR0, HX0, HF0, HB0⟩
  clear HR0 HX0 HB0 HF0 q0
  case round =>
    obtain ⟨j, hj, rfl, HR, HX, HF, HB⟩ := hrel
    have q5 : wr.cell? ⟨w.heap.size, 5, none⟩ = some (.slice p ps.length c) := cell_of_row wr _ 5 _ 27 (0, 0) HX.out
    obtain ⟨g7, hsl, hg7⟩ := HR.out.form
    subst hsl
    by_cases hlt : j < ps.length
    · have hne : ps ≠ [] := by intro e; subst e; simp at hlt
      have hlt3 : (j : Int) < ((ps.length : Nat) : Int) := by omega
      have hwl := HB.out.size
      have hsw2 : w.heap.size < wr.heap.size := (Array.getElem?_eq_some_iff.1 HX.out).1
      obtain ⟨b, o, rfl, hDb, hx9⟩ := HP.out hne
      obtain ⟨k', u', p', n', c', hv, hcell⟩ := hx9 j hlt
      have hbw := hD b hDb
      have cc : ∀ i y, (nodeC k' u' (.slice p' n' c'))[i]? = some y → wr.cell? ⟨b, o + j * 6 + i, none⟩ = some y := fun i y hy => by
        rw [HB.out.cell (p := ⟨b, o + j * 6 + i, none⟩) hbw, ← hcell i y hy, show o + j * 6 + i = o + (6 * j + i) by omega]
      have d0 : wr.cell? ⟨b, o + j * 6, none⟩ = some (.int .i64 k') := by have h := cc 0 (.int .i64 k') rfl; simpa using h
      have d1 : wr.cell? ⟨b, o + j * 6 + 1, none⟩ = some (.int .u64 (u' 0)) := by have h := cc 1 (.int .u64 (u' 0)) rfl; simpa using h
      have d2 : wr.cell? ⟨b, o + j * 6 + 2, none⟩ = some (.int .u64 (u' 1)) := by have h := cc 2 (.int .u64 (u' 1)) rfl; simpa using h
      have d3 : wr.cell? ⟨b, o + j * 6 + 3, none⟩ = some (.int .u64 (u' 2)) := by have h := cc 3 (.int .u64 (u' 2)) rfl; simpa using h
      have d4 : wr.cell? ⟨b, o + j * 6 + 4, none⟩ = some (.int .u64 (u' 3)) := by have h := cc 4 (.int .u64 (u' 3)) rfl; simpa using h
      have d5 : wr.cell? ⟨b, o + j * 6 + 5, none⟩ = some (.slice p' n' c') := by have h := cc 5 (.slice p' n' c') rfl; simpa using h
      have HC := Lib.hid ((hI j hlt).out (.agg (nodeC k' u' (.slice p' n' c'))) (.slice (some ⟨gs, 0, none⟩) N N) f wr (RV.mono (fun b h => h) (fun b hb _ => HB.out.block b (hD b hb)) hv) (fun b hb => Nat.lt_of_lt_of_le (hD b hb) HB.out.size) (by rw [hN]; exact HF.out))
      rw [hN] at HC
      unfold nodeC at HC
      clear hv hcell hx9 cc
      have HT := Lib.hid fun i => ed_4_s u (ps.take j) ps[j] x f i
      rw [← List.take_succ_eq_append_getElem hlt] at HT
      go_wp2_with fail
      refine HC.out.mono ?_
      rintro _ w7 ⟨⟨v7, rfl, hv7⟩, hb⟩
      have HR7 := Lib.hid (HR.out.up hb)
      have HX7 := Lib.hid ((hb.block w.heap.size hsw2).trans HX.out)
      have HF7 := Lib.hid (HF.out.up hb)
      have HB7 := Lib.hid (HB.out.trans (hb.mono hwl))
      have HE := Lib.hid (eith5_any (by omega) HR7.out hv7)
      obtain ⟨g8, rfl, hg8⟩ := hv7.form
      have hwl7 := HB7.out.size
      have hsw7 : w.heap.size < w7.heap.size := (Array.getElem?_eq_some_iff.1 HX7.out).1
      clear hb hv7 HC HR HX HB HF d0 d1 d2 d3 d4 d5 q5
      go_wp2_with fail
      refine HE.out.mono ?_
      rintro _ w8 ⟨⟨v8, rfl, hv8⟩, hb⟩
      have HR8 := Lib.hid (hv8.congr fun i _ => (HT.out i).symm)
      have HX8 := Lib.hid ((hb.block w.heap.size hsw7).trans HX7.out)
      have HF8 := Lib.hid (HF7.out.up hb)
      have HB8 := Lib.hid (HB7.out.trans (hb.mono hwl7))
      clear hb hv8 HE HR7 HX7 HF7 HB7 HT
      go_wp2_with fail
      go_roundw
      case rel => exact ⟨j + 1, by omega, by go_num, HR8, HX8, HF8, HB8⟩
      case measure => simp [intOf]; omega
    · obtain rfl : j = ps.length := by omega
      have hlt3 : ¬ ((ps.length : Nat) : Int) < ((ps.length : Nat) : Int) := by omega
      rw [List.take_length] at HR
      have q0 : wr.cell? ⟨w.heap.size, 0, none⟩ = some (.int .i64 4) := cell_of_row wr _ 0 _ 27 (0, 0) HX.out
      go_wp2_with fail
      go_ret
      exact ⟨⟨_, rfl, HR.out⟩, HB.out⟩
set_option maxHeartbeats 8000000 in
theorem ends_7 {D : Nat → Prop} {u : Nat → Int} {ps : List RT} {x : List UInt8} {v sl : Value} {f : Nat → Bool} {w : World} (hx : x.length ≤ 900) (hD : ∀ b, D b → b < w.heap.size) (hl : ps.length ≤ 9223372036854775806) (h : RV D w (.mk 7 u ps) v) (hf : BL (x.length + 1) f sl w) (h1 : Hid (ps.length = 1)) (hI : ∀ i (hi : i < ps.length), EnC D ps[i] x) :
    Calls Tryd.prog 45 #[v, .string (bs x), sl] w (EiP (x.length + 1) (edF (.mk 7 u ps) x f) w) := by
  obtain ⟨i0, hi, hz0, hz1, hz2⟩ := info_parts infoB
  obtain ⟨p, c, rfl, hp⟩ := h.parts
  have HP := Lib.hid hp
  obtain ⟨N, hN⟩ : ∃ N, x.length + 1 = N := ⟨_, rfl⟩
  rw [hN] at hf ⊢
  have hNi : ((x.length : Nat) : Int) + 1 = (N : Int) := by omega
  have hF := hf
  obtain ⟨gs, rfl, hgs⟩ := hf.form
  have HF := Lib.hid hF
  clear h hp hf hF
  have B0 := Lib.hid ((Below.refl w.heap.size w).alloc (Nat.le_refl _) (.cells #[.int .i64 7, .int .u64 (u 0), .int .u64 (u 1), .int .u64 (u 2), .int .u64 (u 3), .slice p ps.length c] 27))
  have X0 := Lib.hid (heap_alloc_last w (.cells #[.int .i64 7, .int .u64 (u 0), .int .u64 (u 1), .int .u64 (u 2), .int .u64 (u 3), .slice p ps.length c] 27))
  have hsw : (w.alloc (.cells #[.int .i64 7, .int .u64 (u 0), .int .u64 (u 1), .int .u64 (u 2), .int .u64 (u 3), .slice p ps.length c] 27)).heap.size = w.heap.size + 1 := by simp
  go_enter Tryd.func45, Tryd.ntmps45
  go_wp2_with (at_make; refine wpList_make_full _ rfl (.tmp 14) (.tmp 14) 73 rfl w.heap.size 4 i0 (.bool false) 1 Tryd.underlying73 hi hz0 hz1 .i64 .i64 _ _ N rfl rfl ?l1 ?l2 ?b2 ?b3 ?b4 ?_)
  case l1 => first | exact hNi | (simp; omega) | omega
  case l2 => first | exact hNi | (simp; omega) | omega
  case b2 => rw [hz2]; omega
  case b3 => unfold maxLen; omega
  case b4 => simp
  intro w1 hown hgrow
  first | rw [made_fb] at hown | rw [hsw, made_fb] at hown
  have HG := Lib.hid (own_fb hown)
  have HW := Lib.hid (below_grown (B := w.heap.size) B0.out hgrow (fun g h => by cases h) (by rw [hsw]; omega))
  have hX1 : w1.heap[w.heap.size]? = some (.cells #[.int .i64 7, .int .u64 (u 0), .int .u64 (u 1), .int .u64 (u 2), .int .u64 (u 3), .slice p ps.length c] 27 (0, 0)) := (hgrow.block _ (by rw [hsw]; omega) (fun h => by cases h)).trans X0.out
  have HE0 := Lib.hid ((⟨hX1, HG.out, HF.out.up HW.out, HW.out⟩ : EW w N #[.int .i64 7, .int .u64 (u 0), .int .u64 (u 1), .int .u64 (u 2), .int .u64 (u 3), .slice p ps.length c] (fun _ => false) gs f w1))
  clear hown hgrow HG HW hX1 X0 B0 HF
  have hlt : 0 < ps.length := by have := h1.out; omega
  have hne : ps ≠ [] := by intro e; subst e; simp at hlt
  have q0 : w1.cell? ⟨w.heap.size, 0, none⟩ = some (.int .i64 7) := cell_of_row w1 _ 0 _ 27 (0, 0) HE0.out.1
  have q5 : w1.cell? ⟨w.heap.size, 5, none⟩ = some (.slice p ps.length c) := cell_of_row w1 _ 5 _ 27 (0, 0) HE0.out.1
  have i0 : (0 : Int) < ((ps.length : Nat) : Int) := by omega
  obtain ⟨b, o, rfl, hDb, hx9⟩ := HP.out hne
  obtain ⟨k', u', p', n', c', hv, hcell⟩ := hx9 0 hlt
  have hbw := hD b hDb
  have cc : ∀ i y, (nodeC k' u' (.slice p' n' c'))[i]? = some y → w1.cell? ⟨b, o + 0 * 6 + i, none⟩ = some y := fun i y hy => by
    rw [HE0.out.2.2.2.cell (p := ⟨b, o + 0 * 6 + i, none⟩) hbw, ← hcell i y hy, show o + 0 * 6 + i = o + (6 * 0 + i) by omega]
  have d0 : w1.cell? ⟨b, o, none⟩ = some (.int .i64 k') := by have h := cc 0 (.int .i64 k') rfl; simpa using h
  have d1 : w1.cell? ⟨b, o + 1, none⟩ = some (.int .u64 (u' 0)) := by have h := cc 1 (.int .u64 (u' 0)) rfl; simpa using h
  have d2 : w1.cell? ⟨b, o + 2, none⟩ = some (.int .u64 (u' 1)) := by have h := cc 2 (.int .u64 (u' 1)) rfl; simpa using h
  have d3 : w1.cell? ⟨b, o + 3, none⟩ = some (.int .u64 (u' 2)) := by have h := cc 3 (.int .u64 (u' 2)) rfl; simpa using h
  have d4 : w1.cell? ⟨b, o + 4, none⟩ = some (.int .u64 (u' 3)) := by have h := cc 4 (.int .u64 (u' 3)) rfl; simpa using h
  have d5 : w1.cell? ⟨b, o + 5, none⟩ = some (.slice p' n' c') := by have h := cc 5 (.slice p' n' c') rfl; simpa using h
  have HC := Lib.hid ((hI 0 hlt).out (.agg (nodeC k' u' (.slice p' n' c'))) (.slice (some ⟨gs, 0, none⟩) N N) f w1 (RV.mono (fun b h => h) (fun b hb _ => HE0.out.2.2.2.block b (hD b hb)) hv) (fun b hb => Nat.lt_of_lt_of_le (hD b hb) HE0.out.2.2.2.size) (by rw [hN]; exact HE0.out.2.2.1))
  rw [hN] at HC
  unfold nodeC at HC
  clear hv hcell hx9 cc
  have HT : Hid (∀ j, j ≤ x.length → edF (.mk 7 u ps) x f j = (f j || edF ps[0] x f j)) := Lib.hid (by obtain ⟨t, rfl⟩ := List.length_eq_one_iff.1 h1.out; exact fun j hj => ed_7 u t x f j hj)
  go_wp2_with fail
  refine HC.out.mono ?_
  rintro _ w7 ⟨⟨v7, rfl, hv7⟩, hb⟩
  have HE := Lib.hid (eith5_any (by omega) (HE0.out.2.2.1.up hb) hv7)
  have HB7 := Lib.hid (HE0.out.2.2.2.trans (hb.mono HE0.out.2.2.2.size))
  obtain ⟨g8, rfl, hg8⟩ := hv7.form
  clear hb hv7 HC HE0 q0 q5 d0 d1 d2 d3 d4 d5
  go_wp2_with fail
  refine HE.out.mono ?_
  rintro _ w8 ⟨⟨v8, rfl, hv8⟩, hb⟩
  have HR8 := Lib.hid (hv8.congr fun i hi => (HT.out i (by omega)).symm)
  have HB8 := Lib.hid (HB7.out.trans (hb.mono HB7.out.size))
  clear hb hv8 HE HB7 HT
  go_wp2_with fail
  go_ret
  exact ⟨⟨_, rfl, HR8.out⟩, HB8.out⟩
set_option maxHeartbeats 8000000 in
theorem ends_5 {D : Nat → Prop} {u : Nat → Int} {ps : List RT} {x : List UInt8} {v sl : Value} {f : Nat → Bool} {w : World} (hx : x.length ≤ 900) (hD : ∀ b, D b → b < w.heap.size) (hl : ps.length ≤ 9223372036854775806) (h : RV D w (.mk 5 u ps) v) (hf : BL (x.length + 1) f sl w) (h1 : Hid (ps.length = 1)) (hI : ∀ i (hi : i < ps.length), EnC D ps[i] x) :
    Calls Tryd.prog 45 #[v, .string (bs x), sl] w (EiP (x.length + 1) (edF (.mk 5 u ps) x f) w) := by
  obtain ⟨i0, hi, hz0, hz1, hz2⟩ := info_parts infoB
  obtain ⟨p, c, rfl, hp⟩ := h.parts
  have HP := Lib.hid hp
  obtain ⟨N, hN⟩ : ∃ N, x.length + 1 = N := ⟨_, rfl⟩
  rw [hN] at hf ⊢
  have hNi : ((x.length : Nat) : Int) + 1 = (N : Int) := by omega
  have hF := hf
  obtain ⟨gs, rfl, hgs⟩ := hf.form
  have HF := Lib.hid hF
  clear h hp hf hF
  have B0 := Lib.hid ((Below.refl w.heap.size w).alloc (Nat.le_refl _) (.cells #[.int .i64 5, .int .u64 (u 0), .int .u64 (u 1), .int .u64 (u 2), .int .u64 (u 3), .slice p ps.length c] 27))
  have X0 := Lib.hid (heap_alloc_last w (.cells #[.int .i64 5, .int .u64 (u 0), .int .u64 (u 1), .int .u64 (u 2), .int .u64 (u 3), .slice p ps.length c] 27))
  have hsw : (w.alloc (.cells #[.int .i64 5, .int .u64 (u 0), .int .u64 (u 1), .int .u64 (u 2), .int .u64 (u 3), .slice p ps.length c] 27)).heap.size = w.heap.size + 1 := by simp
  go_enter Tryd.func45, Tryd.ntmps45
  go_wp2_with (at_make; refine wpList_make_full _ rfl (.tmp 14) (.tmp 14) 73 rfl w.heap.size 4 i0 (.bool false) 1 Tryd.underlying73 hi hz0 hz1 .i64 .i64 _ _ N rfl rfl ?l1 ?l2 ?b2 ?b3 ?b4 ?_)
  case l1 => first | exact hNi | (simp; omega) | omega
  case l2 => first | exact hNi | (simp; omega) | omega
  case b2 => rw [hz2]; omega
  case b3 => unfold maxLen; omega
  case b4 => simp
  intro w1 hown hgrow
  first | rw [made_fb] at hown | rw [hsw, made_fb] at hown
  have HG := Lib.hid (own_fb hown)
  have HW := Lib.hid (below_grown (B := w.heap.size) B0.out hgrow (fun g h => by cases h) (by rw [hsw]; omega))
  have hX1 : w1.heap[w.heap.size]? = some (.cells #[.int .i64 5, .int .u64 (u 0), .int .u64 (u 1), .int .u64 (u 2), .int .u64 (u 3), .slice p ps.length c] 27 (0, 0)) := (hgrow.block _ (by rw [hsw]; omega) (fun h => by cases h)).trans X0.out
  have HE0 := Lib.hid ((⟨hX1, HG.out, HF.out.up HW.out, HW.out⟩ : EW w N #[.int .i64 5, .int .u64 (u 0), .int .u64 (u 1), .int .u64 (u 2), .int .u64 (u 3), .slice p ps.length c] (fun _ => false) gs f w1))
  clear hown hgrow HG HW hX1 X0 B0 HF
  have hlt : 0 < ps.length := by have := h1.out; omega
  have hne : ps ≠ [] := by intro e; subst e; simp at hlt
  have q0 : w1.cell? ⟨w.heap.size, 0, none⟩ = some (.int .i64 5) := cell_of_row w1 _ 0 _ 27 (0, 0) HE0.out.1
  have q5 : w1.cell? ⟨w.heap.size, 5, none⟩ = some (.slice p ps.length c) := cell_of_row w1 _ 5 _ 27 (0, 0) HE0.out.1
  have i0 : (0 : Int) < ((ps.length : Nat) : Int) := by omega
  obtain ⟨b, o, rfl, hDb, hx9⟩ := HP.out hne
  obtain ⟨k', u', p', n', c', hv, hcell⟩ := hx9 0 hlt
  have hbw := hD b hDb
  have cc : ∀ i y, (nodeC k' u' (.slice p' n' c'))[i]? = some y → w1.cell? ⟨b, o + 0 * 6 + i, none⟩ = some y := fun i y hy => by
    rw [HE0.out.2.2.2.cell (p := ⟨b, o + 0 * 6 + i, none⟩) hbw, ← hcell i y hy, show o + 0 * 6 + i = o + (6 * 0 + i) by omega]
  have d0 : w1.cell? ⟨b, o, none⟩ = some (.int .i64 k') := by have h := cc 0 (.int .i64 k') rfl; simpa using h
  have d1 : w1.cell? ⟨b, o + 1, none⟩ = some (.int .u64 (u' 0)) := by have h := cc 1 (.int .u64 (u' 0)) rfl; simpa using h
  have d2 : w1.cell? ⟨b, o + 2, none⟩ = some (.int .u64 (u' 1)) := by have h := cc 2 (.int .u64 (u' 1)) rfl; simpa using h
  have d3 : w1.cell? ⟨b, o + 3, none⟩ = some (.int .u64 (u' 2)) := by have h := cc 3 (.int .u64 (u' 2)) rfl; simpa using h
  have d4 : w1.cell? ⟨b, o + 4, none⟩ = some (.int .u64 (u' 3)) := by have h := cc 4 (.int .u64 (u' 3)) rfl; simpa using h
  have d5 : w1.cell? ⟨b, o + 5, none⟩ = some (.slice p' n' c') := by have h := cc 5 (.slice p' n' c') rfl; simpa using h
  have HA := Lib.hid (again_walk (sl := (.slice (some ⟨gs, 0, none⟩) N N)) (f := f) hx (fun b hb => Nat.lt_of_lt_of_le (hD b hb) HE0.out.2.2.2.size) (RV.mono (w' := w1) (fun b h => h) (fun b hb _ => HE0.out.2.2.2.block b (hD b hb)) hv) (by rw [hN]; exact HE0.out.2.2.1) (hI 0 hlt))
  rw [hN] at HA
  clear hcell hx9 cc hv
  have HT : Hid (edF (.mk 5 u ps) x f = stF ps[0] x f) := Lib.hid (by obtain ⟨t, rfl⟩ := List.length_eq_one_iff.1 h1.out; exact ed_5 u t x f)
  have HB1 := Lib.hid HE0.out.2.2.2
  clear HE0
  go_wp2_with fail
  refine HA.out.mono ?_
  rintro _ w8 ⟨⟨v8, rfl, hv8⟩, hb⟩
  rw [← HT.out] at hv8
  have HR8 := Lib.hid hv8
  have HB8 := Lib.hid (HB1.out.trans (hb.mono HB1.out.size))
  clear hb hv8 HA HB1 HT q0 q5 d0 d1 d2 d3 d4 d5
  go_wp2_with fail
  go_ret
  exact ⟨⟨_, rfl, HR8.out⟩, HB8.out⟩
end
section
/- The document's Ends: the rest of its kinds, and all. -/
theorem keepEn {v0 v1 v2 v3 v4 v5 v6 : Value} {o0 o1 o2 o3 o4 o5 o6 : Nat} {b0 b1 : Nat} {y w' w'' : World} (h : w'.cell? ⟨b0, o0, none⟩ = some v0 ∧ w'.cell? ⟨b1, o1, none⟩ = some v1 ∧ w'.cell? ⟨b1, o2, none⟩ = some v2 ∧ w'.cell? ⟨b1, o3, none⟩ = some v3 ∧ w'.cell? ⟨b1, o4, none⟩ = some v4 ∧ w'.cell? ⟨b1, o5, none⟩ = some v5 ∧ w'.cell? ⟨b1, o6, none⟩ = some v6 ∧ b0 < w'.heap.size ∧ b1 < w'.heap.size ∧ Below y.heap.size y w') (hb : Below w'.heap.size w' w'') : w''.cell? ⟨b0, o0, none⟩ = some v0 ∧ w''.cell? ⟨b1, o1, none⟩ = some v1 ∧ w''.cell? ⟨b1, o2, none⟩ = some v2 ∧ w''.cell? ⟨b1, o3, none⟩ = some v3 ∧ w''.cell? ⟨b1, o4, none⟩ = some v4 ∧ w''.cell? ⟨b1, o5, none⟩ = some v5 ∧ w''.cell? ⟨b1, o6, none⟩ = some v6 ∧ b0 < w''.heap.size ∧ b1 < w''.heap.size ∧ Below y.heap.size y w'' := by
  obtain ⟨h0, h1, h2, h3, h4, h5, h6, z0, z1, K⟩ := h
  exact ⟨(hb.cell (p := ⟨b0, o0, none⟩) z0).trans h0, (hb.cell (p := ⟨b1, o1, none⟩) z1).trans h1, (hb.cell (p := ⟨b1, o2, none⟩) z1).trans h2, (hb.cell (p := ⟨b1, o3, none⟩) z1).trans h3, (hb.cell (p := ⟨b1, o4, none⟩) z1).trans h4, (hb.cell (p := ⟨b1, o5, none⟩) z1).trans h5, (hb.cell (p := ⟨b1, o6, none⟩) z1).trans h6, Nat.lt_of_lt_of_le z0 hb.size, Nat.lt_of_lt_of_le z1 hb.size, K.trans (hb.mono K.size)⟩
theorem keepEn_k {v0 v1 v2 v3 v4 v5 v6 : Value} {o0 o1 o2 o3 o4 o5 o6 : Nat} {b0 b1 : Nat} {y w' : World} (h : w'.cell? ⟨b0, o0, none⟩ = some v0 ∧ w'.cell? ⟨b1, o1, none⟩ = some v1 ∧ w'.cell? ⟨b1, o2, none⟩ = some v2 ∧ w'.cell? ⟨b1, o3, none⟩ = some v3 ∧ w'.cell? ⟨b1, o4, none⟩ = some v4 ∧ w'.cell? ⟨b1, o5, none⟩ = some v5 ∧ w'.cell? ⟨b1, o6, none⟩ = some v6 ∧ b0 < w'.heap.size ∧ b1 < w'.heap.size ∧ Below y.heap.size y w') : Below y.heap.size y w' := h.2.2.2.2.2.2.2.2.2
/-- What lies in Ends' list after m letters of a set's round. -/
def setF (f g : Nat → Bool) (x : List UInt8) (m j : Nat) : Bool := decide (0 < j) && decide (j ≤ m) && f (j - 1) && g (x.getD (j - 1) 0).toNat
theorem setF_zero (f g : Nat → Bool) (x : List UInt8) (N : Nat) : fbA N (fun _ => false) = fbA N (setF f g x 0) := fbA_congr fun j _ => by
  unfold setF
  by_cases h : 0 < j
  · simp [h, show ¬ j ≤ 0 by omega]
  · simp [h]
theorem setF_step (f g : Nat → Bool) (x : List UInt8) (m N : Nat) (c : UInt8) (hc : x[m]? = some c) (b : Bool) (hb : b = (f m && g c.toNat)) : (fbA N (setF f g x m)).setIfInBounds (m + 1) (.bool b) = fbA N (setF f g x (m + 1)) := by
  rw [fbA_set]
  refine fbA_congr fun j _ => ?_
  by_cases h : j = m + 1
  · subst h
    rw [if_pos rfl, hb]
    unfold setF
    simp [List.getD, hc]
  · rw [if_neg h]
    unfold setF
    rw [show decide (j ≤ m + 1) = decide (j ≤ m) by rw [decide_eq_decide]; omega]
theorem setF_all (u : Nat → Int) (x : List UInt8) (f : Nat → Bool) (j : Nat) (hj : j ≤ x.length) : setF f (fOf u) x x.length j = edF (.mk 2 u []) x f j := by
  rw [Bool.eq_iff_iff, ed_2]
  unfold setF
  simp only [Bool.and_eq_true, decide_eq_true_eq]
  constructor
  · rintro ⟨⟨⟨h1, h2⟩, h3⟩, h4⟩
    refine ⟨j - 1, by omega, by omega, h3, ?_⟩
    rw [List.getD, List.getElem?_eq_getElem (by omega)] at h4
    exact h4
  · rintro ⟨i, hi, rfl, h3, h4⟩
    refine ⟨⟨⟨by omega, by omega⟩, by simpa using h3⟩, ?_⟩
    rw [show i + 1 - 1 = i by omega, List.getD, List.getElem?_eq_getElem hi]
    exact h4
set_option maxHeartbeats 8000000 in
theorem ends_2 {D : Nat → Prop} {u : Nat → Int} {ps : List RT} {x : List UInt8} {v sl : Value} {f : Nat → Bool} {w : World} (hx : x.length ≤ 900) (hD : ∀ b, D b → b < w.heap.size) (hl : ps.length ≤ 9223372036854775806) (h : RV D w (.mk 2 u ps) v) (hf : BL (x.length + 1) f sl w) (HFL : Hid (∀ w, Calls Tryd.prog 62 #[vv u] w fun e w' => e = .returned (.agg (fl (fOf u))) ∧ Below w.heap.size w w')) :
    Calls Tryd.prog 45 #[v, .string (bs x), sl] w (EiP (x.length + 1) (edF (.mk 2 u []) x f) w) := by
  obtain ⟨i0, hi, hz0, hz1, hz2⟩ := info_parts infoB
  obtain ⟨p, c, rfl, hp⟩ := h.parts
  have HP := Lib.hid hp
  obtain ⟨N, hN⟩ : ∃ N, x.length + 1 = N := ⟨_, rfl⟩
  rw [hN] at hf ⊢
  have hNi : ((x.length : Nat) : Int) + 1 = (N : Int) := by omega
  have hF := hf
  obtain ⟨gs, rfl, hgs⟩ := hf.form
  have HF := Lib.hid hF
  clear h hp hf hF
  have B0 := Lib.hid ((Below.refl w.heap.size w).alloc (Nat.le_refl _) (.cells #[.int .i64 2, .int .u64 (u 0), .int .u64 (u 1), .int .u64 (u 2), .int .u64 (u 3), .slice p ps.length c] 27))
  have X0 := Lib.hid (heap_alloc_last w (.cells #[.int .i64 2, .int .u64 (u 0), .int .u64 (u 1), .int .u64 (u 2), .int .u64 (u 3), .slice p ps.length c] 27))
  have hsw : (w.alloc (.cells #[.int .i64 2, .int .u64 (u 0), .int .u64 (u 1), .int .u64 (u 2), .int .u64 (u 3), .slice p ps.length c] 27)).heap.size = w.heap.size + 1 := by simp
  go_enter Tryd.func45, Tryd.ntmps45
  go_wp2_with (at_make; refine wpList_make_full _ rfl (.tmp 14) (.tmp 14) 73 rfl w.heap.size 4 i0 (.bool false) 1 Tryd.underlying73 hi hz0 hz1 .i64 .i64 _ _ N rfl rfl ?l1 ?l2 ?b2 ?b3 ?b4 ?_)
  case l1 => first | exact hNi | (simp; omega) | omega
  case l2 => first | exact hNi | (simp; omega) | omega
  case b2 => rw [hz2]; omega
  case b3 => unfold maxLen; omega
  case b4 => simp
  intro w1 hown hgrow
  first | rw [made_fb] at hown | rw [hsw, made_fb] at hown
  have HG := Lib.hid (own_fb hown)
  have HW := Lib.hid (below_grown (B := w.heap.size) B0.out hgrow (fun g h => by cases h) (by rw [hsw]; omega))
  have hX1 : w1.heap[w.heap.size]? = some (.cells #[.int .i64 2, .int .u64 (u 0), .int .u64 (u 1), .int .u64 (u 2), .int .u64 (u 3), .slice p ps.length c] 27 (0, 0)) := (hgrow.block _ (by rw [hsw]; omega) (fun h => by cases h)).trans X0.out
  have HE0 := Lib.hid ((⟨hX1, HG.out, HF.out.up HW.out, HW.out⟩ : EW w N #[.int .i64 2, .int .u64 (u 0), .int .u64 (u 1), .int .u64 (u 2), .int .u64 (u 3), .slice p ps.length c] (fun _ => false) gs f w1))
  clear hown hgrow HG HW hX1 X0 B0
  have q0 : w1.cell? ⟨w.heap.size, 0, none⟩ = some (.int .i64 2) := cell_of_row w1 _ 0 _ 27 (0, 0) HE0.out.1
  have q1 : w1.cell? ⟨w.heap.size, 1, none⟩ = some (.int .u64 (u 0)) := cell_of_row w1 _ 1 _ 27 (0, 0) HE0.out.1
  have q2 : w1.cell? ⟨w.heap.size, 2, none⟩ = some (.int .u64 (u 1)) := cell_of_row w1 _ 2 _ 27 (0, 0) HE0.out.1
  have q3 : w1.cell? ⟨w.heap.size, 3, none⟩ = some (.int .u64 (u 2)) := cell_of_row w1 _ 3 _ 27 (0, 0) HE0.out.1
  have q4 : w1.cell? ⟨w.heap.size, 4, none⟩ = some (.int .u64 (u 3)) := cell_of_row w1 _ 4 _ 27 (0, 0) HE0.out.1
  have hz := zero27
  have S1 : Hid (Sb w w1 [(w.heap.size + 1, .cells (fbA N (setF f (fOf u) x 0)) 4 (0, 0)), (w.heap.size, .cells #[.int .i64 2, .int .u64 (u 0), .int .u64 (u 1), .int .u64 (u 2), .int .u64 (u 3), .slice p ps.length c] 27 (0, 0))]) := Lib.hid ⟨HE0.out.2.2.2, by
    intro c hc
    simp only [List.mem_cons, List.not_mem_nil, or_false] at hc
    rcases hc with rfl | rfl
    · exact ⟨Nat.le_succ _, by rw [HE0.out.2.1, setF_zero f (fOf u) x N]⟩
    · exact ⟨Nat.le_refl _, HE0.out.1⟩⟩
  clear HE0
  unfold vv at HFL
  go_wp2_with fail
  refine (HFL.out _).mono ?_
  rintro _ w2 ⟨rfl, hb⟩
  have S2 := Lib.hid ((S1.out.up hb).alloc (.cells (fl fun _ => false) 94))
  have h1 := Lib.hid S2.out.heap
  have S3 := Lib.hid (S2.out.setRow (cs' := fl (fOf u)) (by intro c hc; have z1 := (S1.out.up hb).lt; have z2 := (S1.out.up hb).tl.lt; simp at hc; rcases hc with rfl | rfl <;> simp at z1 z2 ⊢ <;> omega))
  have hb2 : w.heap.size + 1 < w2.heap.size := (S1.out.up hb).lt
  clear hb S1 q0 q1 q2 q3 q4
  go_wp2_with (refine wpList_store_row rfl 94 (.tmp 8) (.tmp 27) rfl w2.heap.size (fl (fOf u)) rfl rfl 94 _ h1.out (fsize27 _) (by rw [fl_size, fl_size]) (fl_one _) ?_)
  generalize w2.heap.size = b2 at *
  have S4 := Lib.hid ((S3.out.sub (M := [(w.heap.size + 1, .cells (fbA N (setF f (fOf u) x 0)) 4 (0, 0)), (b2, .cells (fl (fOf u)) 94 (0, 0)), (w.heap.size, .cells #[.int .i64 2, .int .u64 (u 0), .int .u64 (u 1), .int .u64 (u 2), .int .u64 (u 3), .slice p ps.length c] 27 (0, 0))]) (by intro c hc; simp only [List.mem_cons, List.not_mem_nil, or_false] at hc ⊢; rcases hc with rfl | rfl | rfl <;> simp)))
  clear S2 S3 h1
  go_loopw [9] (fun i wr => ∃ m : Nat, m ≤ x.length ∧ i = .int .i64 (m : Nat) ∧ Hid (Sb w wr [(w.heap.size + 1, .cells (fbA N (setF f (fOf u) x m)) 4 (0, 0)), (b2, .cells (fl (fOf u)) 94 (0, 0)), (w.heap.size, .cells #[.int .i64 2, .int .u64 (u 0), .int .u64 (u 1), .int .u64 (u 2), .int .u64 (u 3), .slice p ps.length c] 27 (0, 0))])) (fun i _ => x.length - (intOf i).toNat)
  case atStart => exact ⟨0, by omega, rfl, S4⟩
  case round =>
    obtain ⟨m, hm, rfl, S⟩ := hrel
    clear S4
    by_cases hlt : m < x.length
    · have hlt' : (m : Int) < ((x.length : Nat) : Int) := by omega
      obtain ⟨ch, hch⟩ : ∃ ch, x[m]? = some ch := ⟨x[m], List.getElem?_eq_getElem hlt⟩
      have hg : ∀ h, (bs x)[m]'h = ch := fun h => by have e := List.getElem?_eq_getElem hlt; rw [hch] at e; exact (Option.some.inj e).symm
      have c7 : wr.cell? ⟨gs, m, none⟩ = some (.bool (f m)) := (HF.out.up (S.out.1.mono (Nat.le_refl _))).cell m (by omega)
      have c8 : wr.cell? ⟨b2, ch.toNat, none⟩ = some (.bool (fOf u ch.toNat)) := S.out.tl.flag ch.toNat ch.toNat_lt
      have c9 : wr.cell? ⟨w.heap.size + 1, m + 1, none⟩ = some (.bool (setF f (fOf u) x m (m + 1))) := (S.out.cell (m + 1)).trans (fbA_get N _ (m + 1) (by omega))
      have f9 := S.out.free (m + 1)
      have HS := Lib.hid fun b (hb : b = (f m && fOf u ch.toNat)) => (by
        have h1 := S.out.set (i := m + 1) (.bool b) (by intro c hc; simp only [List.mem_cons, List.not_mem_nil, or_false] at hc; rcases hc with rfl | rfl <;> simp <;> omega)
        rw [setF_step f (fOf u) x m N ch hch b hb] at h1
        exact h1 : Sb w (wr.setCell ⟨w.heap.size + 1, m + 1, none⟩ (.bool b)) [(w.heap.size + 1, .cells (fbA N (setF f (fOf u) x (m + 1))) 4 (0, 0)), (b2, .cells (fl (fOf u)) 94 (0, 0)), (w.heap.size, .cells #[.int .i64 2, .int .u64 (u 0), .int .u64 (u 1), .int .u64 (u 2), .int .u64 (u 3), .slice p ps.length c] 27 (0, 0))])
      have HCH := Lib.hid hch
      have hcl := ch.toNat_lt
      clear hch
      generalize hfm : f m = fm at *
      generalize hgm : fOf u ch.toNat = gm at *
      clear hfm hgm
      generalize setF f (fOf u) x m (m + 1) = ov at *
      cases fm
      · have h9 := Lib.hid (HS.out false (by simp))
        clear HS S
        go_wp2_with fail
        go_roundw
        case rel => exact ⟨m + 1, by omega, by go_num, h9⟩
        case measure => simp [intOf]; omega
      · have h9 := Lib.hid (HS.out gm (by simp))
        clear HS S
        go_wp2_with fail
        go_roundw
        case rel => exact ⟨m + 1, by omega, by go_num, h9⟩
        case measure => simp [intOf]; omega
    · obtain rfl : m = x.length := by omega
      have hlt' : ¬ ((x.length : Nat) : Int) < ((x.length : Nat) : Int) := by omega
      have HR : Hid (BL N (edF (.mk 2 u []) x f) (.slice (some ⟨w.heap.size + 1, 0, none⟩) N N) wr) := Lib.hid ⟨_, rfl, by rw [S.out.heap, fbA_congr fun j hj => setF_all u x f j (by omega)]⟩
      have q0 : wr.cell? ⟨w.heap.size, 0, none⟩ = some (.int .i64 2) := S.out.tl.tl.cell 0
      go_wp2_with fail
      go_ret
      exact ⟨⟨_, rfl, HR.out⟩, S.out.1⟩
set_option maxHeartbeats 8000000 in
theorem ends_6 {D : Nat → Prop} {u : Nat → Int} {ps : List RT} {x : List UInt8} {v sl : Value} {f : Nat → Bool} {w : World} (hx : x.length ≤ 900) (hD : ∀ b, D b → b < w.heap.size) (hl : ps.length ≤ 9223372036854775806) (h : RV D w (.mk 6 u ps) v) (hf : BL (x.length + 1) f sl w) (h1 : Hid (ps.length = 1)) (hI : ∀ i (hi : i < ps.length), EnC D ps[i] x) :
    Calls Tryd.prog 45 #[v, .string (bs x), sl] w (EiP (x.length + 1) (edF (.mk 6 u ps) x f) w) := by
  obtain ⟨i0, hi, hz0, hz1, hz2⟩ := info_parts infoB
  obtain ⟨p, c, rfl, hp⟩ := h.parts
  have HP := Lib.hid hp
  obtain ⟨N, hN⟩ : ∃ N, x.length + 1 = N := ⟨_, rfl⟩
  rw [hN] at hf ⊢
  have hNi : ((x.length : Nat) : Int) + 1 = (N : Int) := by omega
  have hF := hf
  obtain ⟨gs, rfl, hgs⟩ := hf.form
  have HF := Lib.hid hF
  clear h hp hf hF
  have B0 := Lib.hid ((Below.refl w.heap.size w).alloc (Nat.le_refl _) (.cells #[.int .i64 6, .int .u64 (u 0), .int .u64 (u 1), .int .u64 (u 2), .int .u64 (u 3), .slice p ps.length c] 27))
  have X0 := Lib.hid (heap_alloc_last w (.cells #[.int .i64 6, .int .u64 (u 0), .int .u64 (u 1), .int .u64 (u 2), .int .u64 (u 3), .slice p ps.length c] 27))
  have hsw : (w.alloc (.cells #[.int .i64 6, .int .u64 (u 0), .int .u64 (u 1), .int .u64 (u 2), .int .u64 (u 3), .slice p ps.length c] 27)).heap.size = w.heap.size + 1 := by simp
  go_enter Tryd.func45, Tryd.ntmps45
  go_wp2_with (at_make; refine wpList_make_full _ rfl (.tmp 14) (.tmp 14) 73 rfl w.heap.size 4 i0 (.bool false) 1 Tryd.underlying73 hi hz0 hz1 .i64 .i64 _ _ N rfl rfl ?l1 ?l2 ?b2 ?b3 ?b4 ?_)
  case l1 => first | exact hNi | (simp; omega) | omega
  case l2 => first | exact hNi | (simp; omega) | omega
  case b2 => rw [hz2]; omega
  case b3 => unfold maxLen; omega
  case b4 => simp
  intro w1 hown hgrow
  first | rw [made_fb] at hown | rw [hsw, made_fb] at hown
  have HG := Lib.hid (own_fb hown)
  have HW := Lib.hid (below_grown (B := w.heap.size) B0.out hgrow (fun g h => by cases h) (by rw [hsw]; omega))
  have hX1 : w1.heap[w.heap.size]? = some (.cells #[.int .i64 6, .int .u64 (u 0), .int .u64 (u 1), .int .u64 (u 2), .int .u64 (u 3), .slice p ps.length c] 27 (0, 0)) := (hgrow.block _ (by rw [hsw]; omega) (fun h => by cases h)).trans X0.out
  have HE0 := Lib.hid ((⟨hX1, HG.out, HF.out.up HW.out, HW.out⟩ : EW w N #[.int .i64 6, .int .u64 (u 0), .int .u64 (u 1), .int .u64 (u 2), .int .u64 (u 3), .slice p ps.length c] (fun _ => false) gs f w1))
  clear hown hgrow HG HW hX1 X0 B0 HF
  have hlt : 0 < ps.length := by have := h1.out; omega
  have hne : ps ≠ [] := by intro e; subst e; simp at hlt
  have q0 : w1.cell? ⟨w.heap.size, 0, none⟩ = some (.int .i64 6) := cell_of_row w1 _ 0 _ 27 (0, 0) HE0.out.1
  have q5 : w1.cell? ⟨w.heap.size, 5, none⟩ = some (.slice p ps.length c) := cell_of_row w1 _ 5 _ 27 (0, 0) HE0.out.1
  have i0 : (0 : Int) < ((ps.length : Nat) : Int) := by omega
  obtain ⟨b, o, rfl, hDb, hx9⟩ := HP.out hne
  obtain ⟨k', u', p', n', c', hv, hcell⟩ := hx9 0 hlt
  have hbw := hD b hDb
  have cc : ∀ i y, (nodeC k' u' (.slice p' n' c'))[i]? = some y → w1.cell? ⟨b, o + 0 * 6 + i, none⟩ = some y := fun i y hy => by
    rw [HE0.out.2.2.2.cell (p := ⟨b, o + 0 * 6 + i, none⟩) hbw, ← hcell i y hy, show o + 0 * 6 + i = o + (6 * 0 + i) by omega]
  have d0 : w1.cell? ⟨b, o, none⟩ = some (.int .i64 k') := by have h := cc 0 (.int .i64 k') rfl; simpa using h
  have d1 : w1.cell? ⟨b, o + 1, none⟩ = some (.int .u64 (u' 0)) := by have h := cc 1 (.int .u64 (u' 0)) rfl; simpa using h
  have d2 : w1.cell? ⟨b, o + 2, none⟩ = some (.int .u64 (u' 1)) := by have h := cc 2 (.int .u64 (u' 1)) rfl; simpa using h
  have d3 : w1.cell? ⟨b, o + 3, none⟩ = some (.int .u64 (u' 2)) := by have h := cc 3 (.int .u64 (u' 2)) rfl; simpa using h
  have d4 : w1.cell? ⟨b, o + 4, none⟩ = some (.int .u64 (u' 3)) := by have h := cc 4 (.int .u64 (u' 3)) rfl; simpa using h
  have d5 : w1.cell? ⟨b, o + 5, none⟩ = some (.slice p' n' c') := by have h := cc 5 (.slice p' n' c') rfl; simpa using h
  have HC : Hid (∀ z, Below w1.heap.size w1 z → Calls Tryd.prog 45 #[.agg (nodeC k' u' (.slice p' n' c')), .string (bs x), .slice (some ⟨gs, 0, none⟩) N N] z (EiP N (edF ps[0] x f) z)) := Lib.hid fun z hz => by
    have := (hI 0 hlt).out (.agg (nodeC k' u' (.slice p' n' c'))) (.slice (some ⟨gs, 0, none⟩) N N) f z (RV.mono (fun b h => h) (fun b hb _ => (hz.block b (Nat.lt_of_lt_of_le (hD b hb) HE0.out.2.2.2.size)).trans (HE0.out.2.2.2.block b (hD b hb))) hv) (fun b hb => Nat.lt_of_lt_of_le (hD b hb) (Nat.le_trans HE0.out.2.2.2.size hz.size)) (by rw [hN]; exact HE0.out.2.2.1.up hz)
    rw [hN] at this
    exact this
  have HA : Hid (∀ sl g z, BL N g sl z → Below w1.heap.size w1 z → Calls Tryd.prog 64 #[.agg (nodeC k' u' (.slice p' n' c')), .string (bs x), sl] z (EiP N (stF ps[0] x g) z)) := Lib.hid fun sl g z hg hz => by
    have := again_walk (sl := sl) (f := g) (w := z) hx (fun b hb => Nat.lt_of_lt_of_le (hD b hb) (Nat.le_trans HE0.out.2.2.2.size hz.size)) (RV.mono (fun b h => h) (fun b hb _ => (hz.block b (Nat.lt_of_lt_of_le (hD b hb) HE0.out.2.2.2.size)).trans (HE0.out.2.2.2.block b (hD b hb))) hv) (by rw [hN]; exact hg) (hI 0 hlt)
    rw [hN] at this
    exact this
  unfold nodeC at HC HA
  have HT : Hid (edF (.mk 6 u ps) x f = stF ps[0] x (edF ps[0] x f)) := Lib.hid (by obtain ⟨t, rfl⟩ := List.length_eq_one_iff.1 h1.out; exact ed_6 u t x f)
  have HB1 := Lib.hid HE0.out.2.2.2
  have z1 : w.heap.size < w1.heap.size := (Array.getElem?_eq_some_iff.1 HE0.out.1).1
  have z2 : b < w1.heap.size := Nat.lt_of_lt_of_le hbw HB1.out.size
  clear HE0 hv hcell hx9 cc
  go_upto_region 25 with fail
  go_region_held3 (fun w' => w'.cell? ⟨w.heap.size, 5, none⟩ = some (.slice (some ⟨b, o, none⟩) ps.length c) ∧ w'.cell? ⟨b, o, none⟩ = some (.int .i64 k') ∧ w'.cell? ⟨b, o + 1, none⟩ = some (.int .u64 (u' 0)) ∧ w'.cell? ⟨b, o + 2, none⟩ = some (.int .u64 (u' 1)) ∧ w'.cell? ⟨b, o + 3, none⟩ = some (.int .u64 (u' 2)) ∧ w'.cell? ⟨b, o + 4, none⟩ = some (.int .u64 (u' 3)) ∧ w'.cell? ⟨b, o + 5, none⟩ = some (.slice p' n' c') ∧ w.heap.size < w'.heap.size ∧ b < w'.heap.size ∧ Below w1.heap.size w1 w')
    (first | assumption | exact ⟨q5, d0, d1, d2, d3, d4, d5, z1, z2, below_drewN (Below.refl _ _) 1⟩ | exact keepEn (by assumption) hb)
    (first | (go_at_call 45; refine (HC.out _ (keepEn_k (by assumption))).mono ?_; rintro _ wq ⟨⟨v7, rfl, hv7⟩, hb⟩) | (go_at_call 64; refine (HA.out _ _ _ hv7 (keepEn_k (by assumption))).mono ?_; rintro _ wz ⟨⟨v8, rfl, hv8⟩, hb⟩))
  all_goals
    rename_i hHeld
    have HR8 : Hid (BL N (edF (.mk 6 u ps) x f) v8 _) := Lib.hid (by rw [HT.out]; exact hv8)
    have HB8 := Lib.hid (HB1.out.trans ((keepEn_k hHeld).mono HB1.out.size))
    clear hHeld hb HC HA HT HB1 q0 q5 d0 d1 d2 d3 d4 d5 z1 z2
    go_wp2_with fail
    go_ret
    exact ⟨⟨_, rfl, HR8.out⟩, HB8.out⟩
end
section
/- The document's Ends and Whole; RegsMatches: the walks. -/
theorem lg_mk1 (u : Nat → Int) (ps : List RT) (w : List UInt8) : Lg (.mk 1 u ps) w ↔ Lg (.mk 1 u []) w := by
  rw [Lg, Lg]
  simp only [show ¬ ((1 : Int) = 0) by decide, if_false, if_true]
theorem lg_mk2 (u : Nat → Int) (ps : List RT) (w : List UInt8) : Lg (.mk 2 u ps) w ↔ Lg (.mk 2 u []) w := by
  rw [Lg, Lg]
  simp only [show ¬ ((2 : Int) = 0) by decide, show ¬ ((2 : Int) = 1) by decide, if_false, if_true]
theorem ends_any {D : Nat → Prop} {x : List UInt8} (hx : x.length ≤ 900) : ∀ (n : Nat) (t : RT), dep t ≤ n → wid t ≤ 9223372036854775806 → mayB t = true → okT t → EnC D t x
  | 0, .mk k u ps, hn, _, _, _ => by simp [dep] at hn
  | n + 1, .mk k u ps, hn, hw, hm, hok => Lib.hid fun v sl f w h hD hf => by
    have h1 : depL ps ≤ n := by simp only [dep] at hn; omega
    obtain ⟨hl, hw2⟩ := wid_mk hw
    rw [mayB, Bool.and_eq_true, Bool.and_eq_true] at hm
    rw [okT] at hok
    have hT : ∀ i (hi : i < ps.length), EnC D ps[i] x := fun i hi => ends_any hx n ps[i] (by have := depL_get ps i hi; omega) (hw2 i hi) (mayL_get ps i hi hm.2) (okL_get ps i hi hok.2)
    rcases fits_kind hm.1.1 with rfl | rfl | rfl | rfl | rfl | ⟨rfl, e1⟩ | ⟨rfl, e1⟩ | ⟨rfl, e1⟩
    · exact ends_0 hx hD hl h hf
    · rw [show edF (.mk 1 u ps) x f = edF (.mk 1 u []) x f from edG_congr (lg_mk1 u ps) x f]
      exact ends_1 hx hD hl h hf
    · rw [show edF (.mk 2 u ps) x f = edF (.mk 2 u []) x f from edG_congr (lg_mk2 u ps) x f]
      refine ends_2 hx hD hl h hf (Lib.hid fun w => ?_)
      have hu := hok.1 rfl
      have hvv : vv (wf (fOf u)) = vv u := by unfold vv; rw [← hu 0 (by omega), ← hu 1 (by omega), ← hu 2 (by omega), ← hu 3 (by omega)]
      rw [← hvv]
      exact flags_any (fOf u) w
    · exact ends_3 hx hD hl h hf hT
    · exact ends_4 hx hD hl h hf hT
    · exact ends_5 hx hD hl h hf (Lib.hid e1) hT
    · exact ends_6 hx hD hl h hf (Lib.hid e1) hT
    · exact ends_7 hx hD hl h hf (Lib.hid e1) hT
theorem ed_whole (t : RT) (x : List UInt8) (hm : mayB t = true) (hs : sz t ≤ 512) : edF t x (fun j => decide (j = 0)) x.length = matB t x := by
  rw [Bool.eq_iff_iff, matB_ok hm hs]
  unfold edF
  rw [edG_iff]
  constructor
  · rintro ⟨i, h1, h2, h3, h4⟩
    obtain rfl : i = 0 := by simpa using h1
    have e : segL x 0 x.length = x := by simp [segL]
    rwa [e] at h4
  · intro h
    refine ⟨0, by simp, by omega, by omega, ?_⟩
    have e : segL x 0 x.length = x := by simp [segL]
    rwa [e]
set_option maxHeartbeats 8000000 in
theorem whole_walk {D : Nat → Prop} {t : RT} {x : List UInt8} {v : Value} {w : World} (hx : x.length ≤ 900) (hD : ∀ b, D b → b < w.heap.size) (h : RV D w t v) (hE : EnC D t x) :
    Calls Tryd.prog 28 #[v, .string (bs x)] w fun e w' => e = .returned (.bool (edF t x (fun j => decide (j = 0)) x.length)) ∧ Below w.heap.size w w' := by
  obtain ⟨i0, hi, hz0, hz1, hz2⟩ := info_parts infoB
  obtain ⟨k, u, p, n, c, rfl⟩ := h.form2
  obtain ⟨N, hN⟩ : ∃ N, x.length + 1 = N := ⟨_, rfl⟩
  have hNi : ((x.length : Nat) : Int) + 1 = (N : Int) := by omega
  have HV := Lib.hid h
  clear h
  have B0 := Lib.hid ((Below.refl w.heap.size w).alloc (Nat.le_refl _) (.cells #[.int .i64 k, .int .u64 (u 0), .int .u64 (u 1), .int .u64 (u 2), .int .u64 (u 3), .slice p n c] 27))
  have X0 := Lib.hid (heap_alloc_last w (.cells #[.int .i64 k, .int .u64 (u 0), .int .u64 (u 1), .int .u64 (u 2), .int .u64 (u 3), .slice p n c] 27))
  have hsw : (w.alloc (.cells #[.int .i64 k, .int .u64 (u 0), .int .u64 (u 1), .int .u64 (u 2), .int .u64 (u 3), .slice p n c] 27)).heap.size = w.heap.size + 1 := by simp
  go_enter Tryd.func28, Tryd.ntmps28
  go_wp2_with (at_make; refine wpList_make_full _ rfl (.tmp 8) (.tmp 8) 73 rfl w.heap.size 4 i0 (.bool false) 1 Tryd.underlying73 hi hz0 hz1 .i64 .i64 _ _ N rfl rfl ?l1 ?l2 ?b2 ?b3 ?b4 ?_)
  case l1 => first | exact hNi | (simp; omega) | omega
  case l2 => first | exact hNi | (simp; omega) | omega
  case b2 => rw [hz2]; omega
  case b3 => unfold maxLen; omega
  case b4 => simp
  intro w1 hown hgrow
  first | rw [made_fb] at hown | rw [hsw, made_fb] at hown
  have HG := Lib.hid (own_fb hown)
  have HW := Lib.hid (below_grown (B := w.heap.size) B0.out hgrow (fun g h => by cases h) (by rw [hsw]; omega))
  have hX1 : w1.heap[w.heap.size]? = some (.cells #[.int .i64 k, .int .u64 (u 0), .int .u64 (u 1), .int .u64 (u 2), .int .u64 (u 3), .slice p n c] 27 (0, 0)) := (hgrow.block _ (by rw [hsw]; omega) (fun h => by cases h)).trans X0.out
  have S1 : Hid (Sb w w1 [(w.heap.size + 1, .cells (fbA N fun _ => false) 4 (0, 0)), (w.heap.size, .cells #[.int .i64 k, .int .u64 (u 0), .int .u64 (u 1), .int .u64 (u 2), .int .u64 (u 3), .slice p n c] 27 (0, 0))]) := Lib.hid ⟨HW.out, by
    intro c hc
    simp only [List.mem_cons, List.not_mem_nil, or_false] at hc
    rcases hc with rfl | rfl
    · exact ⟨Nat.le_succ _, HG.out⟩
    · exact ⟨Nat.le_refl _, hX1⟩⟩
  clear hown hgrow HG HW hX1 X0 B0
  have c9 : w1.cell? ⟨w.heap.size + 1, 0, none⟩ = some (.bool false) := (S1.out.cell 0).trans (fbA_get N _ 0 (by omega))
  have f9 := S1.out.free 0
  have i0 : (0 : Int) < (N : Int) := by omega
  have S2 : Hid (Sb w (w1.setCell ⟨w.heap.size + 1, 0, none⟩ (.bool true)) [(w.heap.size + 1, .cells (fbA N fun j => decide (j = 0)) 4 (0, 0)), (w.heap.size, .cells #[.int .i64 k, .int .u64 (u 0), .int .u64 (u 1), .int .u64 (u 2), .int .u64 (u 3), .slice p n c] 27 (0, 0))]) := Lib.hid (by
    have h1 := S1.out.set (i := 0) (.bool true) (by intro c hc; simp only [List.mem_cons, List.not_mem_nil, or_false] at hc; rcases hc with rfl; simp)
    rw [fbA_set] at h1
    rw [show (fbA N fun j => decide (j = 0)) = fbA N (fun j => if j = 0 then true else false) from fbA_congr fun j _ => by by_cases h : j = 0 <;> simp [h]]
    exact h1)
  go_upto_region 3 with fail
  refine at_world (fun y => Sb w y [(w.heap.size + 1, .cells (fbA N fun j => decide (j = 0)) 4 (0, 0)), (w.heap.size, .cells #[.int .i64 k, .int .u64 (u 0), .int .u64 (u 1), .int .u64 (u 2), .int .u64 (u 3), .slice p n c] 27 (0, 0))]) S2.out fun y hy => ?_
  have S3 := Lib.hid hy
  clear S1 S2 hy c9 f9
  have q0 : y.cell? ⟨w.heap.size, 0, none⟩ = some (.int .i64 k) := S3.out.tl.cell 0
  have q1 : y.cell? ⟨w.heap.size, 1, none⟩ = some (.int .u64 (u 0)) := S3.out.tl.cell 1
  have q2 : y.cell? ⟨w.heap.size, 2, none⟩ = some (.int .u64 (u 1)) := S3.out.tl.cell 2
  have q3 : y.cell? ⟨w.heap.size, 3, none⟩ = some (.int .u64 (u 2)) := S3.out.tl.cell 3
  have q4 : y.cell? ⟨w.heap.size, 4, none⟩ = some (.int .u64 (u 3)) := S3.out.tl.cell 4
  have q5 : y.cell? ⟨w.heap.size, 5, none⟩ = some (.slice p n c) := S3.out.tl.cell 5
  have qz := S3.out.tl.lt
  have HC := Lib.hid (hE.out (.agg #[.int .i64 k, .int .u64 (u 0), .int .u64 (u 1), .int .u64 (u 2), .int .u64 (u 3), .slice p n c]) (.slice (some ⟨w.heap.size + 1, 0, none⟩) N N) (fun j => decide (j = 0)) y (RV.mono (fun b h => h) (fun b hb _ => S3.out.1.block b (hD b hb)) HV.out) (fun b hb => Nat.lt_of_lt_of_le (hD b hb) S3.out.1.size) (by rw [hN]; exact ⟨_, rfl, S3.out.heap⟩))
  rw [hN] at HC
  go_wp2_with fail
  refine HC.out.mono ?_
  rintro _ w7 ⟨⟨v7, rfl, hv7⟩, hb⟩
  have HB := Lib.hid (S3.out.1.trans (hb.mono S3.out.1.size))
  obtain ⟨g7, rfl, hg7⟩ := hv7.form
  have c7 : w7.cell? ⟨g7, x.length, none⟩ = some (.bool (edF t x (fun j => decide (j = 0)) x.length)) := hv7.cell x.length (by omega)
  have i7 : ((x.length : Nat) : Int) < (N : Int) := by omega
  clear hb hv7 HC S3 q0 q1 q2 q3 q4 q5 qz
  obtain ⟨R, hR⟩ : ∃ R, edF t x (fun j => decide (j = 0)) x.length = R := ⟨_, rfl⟩
  rw [hR] at c7
  have HR := Lib.hid hR
  clear hR
  go_wp2_with fail
  go_ret
  exact ⟨by rw [HR.out]; rfl, HB.out⟩
theorem whole_hid {t : RT} (hc : checkE t = 0) (o1 : okT t) {x : List UInt8} (hx : x.length ≤ 900) {D : Nat → Prop} {v : Value} {y : World} (hD : ∀ b, D b → b < y.heap.size) (h : RV D y t v) :
    Hid (∀ z, Below y.heap.size y z → Calls Tryd.prog 28 #[v, .string (bs x)] z fun e w' => e = .returned (.bool (matB t x)) ∧ Below z.heap.size z w') := Lib.hid fun z hb => by
  obtain ⟨hm, hs, hd⟩ := checkE_ok hc
  have hw := wid_sz t
  have := whole_walk (w := z) (D := D) hx (fun b hd => Nat.lt_of_lt_of_le (hD b hd) hb.size) (RV.mono (fun b h => h) (fun b hb' _ => hb.block b (hD b hb')) h) (ends_any hx (dep t) t (Nat.le_refl _) (by omega) hm o1)
  rwa [ed_whole t x hm hs] at this
theorem mt5_hid {t : RT} (o1 : okT t) (d1 : wid t ≤ 9223372036854775806) {x : List UInt8} {B : Bool} {F : Int} (hp : mtP t x = (B, F)) {D : Nat → Prop} {v : Value} {y : World} (hD : ∀ b, D b → b < y.heap.size) (hw0 : 0 < y.heap.size) (hT : Tb y) (h : RV D y t v) :
    Hid (∀ z, Below y.heap.size y z → Calls Tryd.prog 27 #[v, .string (bs x)] z fun e w' => e = .returned (.tuple #[.bool B, .int .i64 F]) ∧ Below z.heap.size z w') := Lib.hid fun z hb => by
  have := matches_any (w := z) (D := D) x (fun b hd => Nat.lt_of_lt_of_le (hD b hd) hb.size) d1 o1 (by have := hb.size; omega) (hT.mono (hb.block 0 hw0)) (RV.mono (fun b h => h) (fun b hb' _ => hb.block b (hD b hb')) h)
  rwa [hp] at this
set_option maxHeartbeats 16000000 in
theorem matches_A {t : RT} {w : World} {ka : Int} {ua : Nat → Int} {pa : Option Addr} {na ca : Nat} (hw0 : 0 < w.heap.size) (hT : Tb w) (V1 : RV (fun b => b < w.heap.size) w t (.agg (nodeC ka ua (.slice pa na ca)))) (o1 : okT t) (d1 : wid t ≤ 9223372036854775806) {x : List UInt8} {E : Int} (hE : checkE t = E) (hne : (E != 0) = true) (hne2 : (E == 0) = false) (hp : mtP t x = (false, E)) :
    Calls Tryd.prog 6 #[.agg #[.int .i64 ka, .int .u64 (ua 0), .int .u64 (ua 1), .int .u64 (ua 2), .int .u64 (ua 3), .slice pa na ca], .string (bs x)] w fun e w' => e = .returned (.bool true) ∧ Below w.heap.size w w' := by
  have S1 := Lib.hid ((Below.refl w.heap.size w).alloc (Nat.le_refl _) (.cells #[.int .i64 ka, .int .u64 (ua 0), .int .u64 (ua 1), .int .u64 (ua 2), .int .u64 (ua 3), .slice pa na ca] 27) : Below w.heap.size w _)
  have B1 := Lib.hid (PBox.new (fun b h => h) V1)
  have HT := Lib.hid hT
  unfold nodeC at B1
  clear V1 hT
  go_enter Tryd.func6, Tryd.ntmps6
  go_upto_region 1 with fail
  refine at_world (fun y => Rst w w.heap.size w.heap.size t t y) ⟨B1.out, B1.out, S1.out, HT.out.mono (S1.out.block 0 hw0), by have := S1.out.size; omega⟩ fun y hy => ?_
  have R1 := Lib.hid hy
  clear B1 S1 hy
  obtain ⟨b1, hb1⟩ : ∃ b1, w.heap.size = b1 := ⟨_, rfl⟩
  rw [hb1] at R1
  have hbl : (bs x).size = x.length := rfl
  obtain ⟨k1, u1, p1, n1, c1, ah, av⟩ := R1.out.1
  have a0 : y.cell? ⟨b1, 0, none⟩ = some (.int .i64 k1) := cell_of_row y b1 0 _ 27 (0, 0) ah
  have a1 : y.cell? ⟨b1, 1, none⟩ = some (.int .u64 (u1 0)) := cell_of_row y b1 1 _ 27 (0, 0) ah
  have a2 : y.cell? ⟨b1, 2, none⟩ = some (.int .u64 (u1 1)) := cell_of_row y b1 2 _ 27 (0, 0) ah
  have a3 : y.cell? ⟨b1, 3, none⟩ = some (.int .u64 (u1 2)) := cell_of_row y b1 3 _ 27 (0, 0) ah
  have a4 : y.cell? ⟨b1, 4, none⟩ = some (.int .u64 (u1 3)) := cell_of_row y b1 4 _ 27 (0, 0) ah
  have a5 : y.cell? ⟨b1, 5, none⟩ = some (.slice p1 n1 c1) := cell_of_row y b1 5 _ 27 (0, 0) ah
  have az : b1 < y.heap.size := (Array.getElem?_eq_some_iff.1 ah).1
  have HM := checkr_hid d1 R1.out.2.2.2.2 R1.out.2.2.2.1 av
  rw [hE] at HM
  unfold nodeC at HM
  clear ah av
  go_wp2_with fail
  refine (HM.out _ (Below.refl _ _)).mono ?_
  rintro _ y1 ⟨rfl, hb⟩
  have R' := Lib.hid (R1.out.up hb)
  clear R1 HM hb a0 a1 a2 a3 a4 a5 az
  have R1 := R'
  clear R'
  obtain ⟨k2, u2, p2, n2, c2, ah, av⟩ := R1.out.1
  have a0 : y1.cell? ⟨b1, 0, none⟩ = some (.int .i64 k2) := cell_of_row y1 b1 0 _ 27 (0, 0) ah
  have a1 : y1.cell? ⟨b1, 1, none⟩ = some (.int .u64 (u2 0)) := cell_of_row y1 b1 1 _ 27 (0, 0) ah
  have a2 : y1.cell? ⟨b1, 2, none⟩ = some (.int .u64 (u2 1)) := cell_of_row y1 b1 2 _ 27 (0, 0) ah
  have a3 : y1.cell? ⟨b1, 3, none⟩ = some (.int .u64 (u2 2)) := cell_of_row y1 b1 3 _ 27 (0, 0) ah
  have a4 : y1.cell? ⟨b1, 4, none⟩ = some (.int .u64 (u2 3)) := cell_of_row y1 b1 4 _ 27 (0, 0) ah
  have a5 : y1.cell? ⟨b1, 5, none⟩ = some (.slice p2 n2 c2) := cell_of_row y1 b1 5 _ 27 (0, 0) ah
  have az : b1 < y1.heap.size := (Array.getElem?_eq_some_iff.1 ah).1
  have HM := mt5_hid o1 d1 hp (fun b h => h) R1.out.2.2.2.2 R1.out.2.2.2.1 av
  unfold nodeC at HM
  clear ah av
  go_wp2_with fail
  refine (HM.out _ (Below.refl _ _)).mono ?_
  rintro _ y2 ⟨rfl, hb⟩
  have R' := Lib.hid (R1.out.up hb)
  clear R1 HM hb a0 a1 a2 a3 a4 a5 az
  have R1 := R'
  clear R'
  have HA := alive_hid R1.out.2.2.2.2 R1.out.2.2.2.1
  go_wp2_with fail
  refine (HA.out _ (Below.refl _ _)).mono ?_
  rintro _ y9 ⟨rfl, hb⟩
  have R8 := Lib.hid (R1.out.up hb)
  clear hb HA R1
  go_wp2
  go_ret
  exact ⟨rfl, R8.out.2.2.1⟩
set_option maxHeartbeats 16000000 in
theorem matches_B {t : RT} {w : World} {ka : Int} {ua : Nat → Int} {pa : Option Addr} {na ca : Nat} (hw0 : 0 < w.heap.size) (hT : Tb w) (V1 : RV (fun b => b < w.heap.size) w t (.agg (nodeC ka ua (.slice pa na ca)))) (o1 : okT t) (d1 : wid t ≤ 9223372036854775806) {x : List UInt8} (hE : checkE t = 0) (hl : (65536 : Int) < ((x.length : Nat) : Int)) (hp : mtP t x = (false, 3)) :
    Calls Tryd.prog 6 #[.agg #[.int .i64 ka, .int .u64 (ua 0), .int .u64 (ua 1), .int .u64 (ua 2), .int .u64 (ua 3), .slice pa na ca], .string (bs x)] w fun e w' => e = .returned (.bool true) ∧ Below w.heap.size w w' := by
  have S1 := Lib.hid ((Below.refl w.heap.size w).alloc (Nat.le_refl _) (.cells #[.int .i64 ka, .int .u64 (ua 0), .int .u64 (ua 1), .int .u64 (ua 2), .int .u64 (ua 3), .slice pa na ca] 27) : Below w.heap.size w _)
  have B1 := Lib.hid (PBox.new (fun b h => h) V1)
  have HT := Lib.hid hT
  unfold nodeC at B1
  clear V1 hT
  go_enter Tryd.func6, Tryd.ntmps6
  go_upto_region 1 with fail
  refine at_world (fun y => Rst w w.heap.size w.heap.size t t y) ⟨B1.out, B1.out, S1.out, HT.out.mono (S1.out.block 0 hw0), by have := S1.out.size; omega⟩ fun y hy => ?_
  have R1 := Lib.hid hy
  clear B1 S1 hy
  obtain ⟨b1, hb1⟩ : ∃ b1, w.heap.size = b1 := ⟨_, rfl⟩
  rw [hb1] at R1
  have hbl : (bs x).size = x.length := rfl
  obtain ⟨k1, u1, p1, n1, c1, ah, av⟩ := R1.out.1
  have a0 : y.cell? ⟨b1, 0, none⟩ = some (.int .i64 k1) := cell_of_row y b1 0 _ 27 (0, 0) ah
  have a1 : y.cell? ⟨b1, 1, none⟩ = some (.int .u64 (u1 0)) := cell_of_row y b1 1 _ 27 (0, 0) ah
  have a2 : y.cell? ⟨b1, 2, none⟩ = some (.int .u64 (u1 1)) := cell_of_row y b1 2 _ 27 (0, 0) ah
  have a3 : y.cell? ⟨b1, 3, none⟩ = some (.int .u64 (u1 2)) := cell_of_row y b1 3 _ 27 (0, 0) ah
  have a4 : y.cell? ⟨b1, 4, none⟩ = some (.int .u64 (u1 3)) := cell_of_row y b1 4 _ 27 (0, 0) ah
  have a5 : y.cell? ⟨b1, 5, none⟩ = some (.slice p1 n1 c1) := cell_of_row y b1 5 _ 27 (0, 0) ah
  have az : b1 < y.heap.size := (Array.getElem?_eq_some_iff.1 ah).1
  have HM := checkr_hid d1 R1.out.2.2.2.2 R1.out.2.2.2.1 av
  rw [hE] at HM
  unfold nodeC at HM
  clear ah av
  go_wp2_with fail
  refine (HM.out _ (Below.refl _ _)).mono ?_
  rintro _ y1 ⟨rfl, hb⟩
  have R' := Lib.hid (R1.out.up hb)
  clear R1 HM hb a0 a1 a2 a3 a4 a5 az
  have R1 := R'
  clear R'
  obtain ⟨k2, u2, p2, n2, c2, ah, av⟩ := R1.out.1
  have a0 : y1.cell? ⟨b1, 0, none⟩ = some (.int .i64 k2) := cell_of_row y1 b1 0 _ 27 (0, 0) ah
  have a1 : y1.cell? ⟨b1, 1, none⟩ = some (.int .u64 (u2 0)) := cell_of_row y1 b1 1 _ 27 (0, 0) ah
  have a2 : y1.cell? ⟨b1, 2, none⟩ = some (.int .u64 (u2 1)) := cell_of_row y1 b1 2 _ 27 (0, 0) ah
  have a3 : y1.cell? ⟨b1, 3, none⟩ = some (.int .u64 (u2 2)) := cell_of_row y1 b1 3 _ 27 (0, 0) ah
  have a4 : y1.cell? ⟨b1, 4, none⟩ = some (.int .u64 (u2 3)) := cell_of_row y1 b1 4 _ 27 (0, 0) ah
  have a5 : y1.cell? ⟨b1, 5, none⟩ = some (.slice p2 n2 c2) := cell_of_row y1 b1 5 _ 27 (0, 0) ah
  have az : b1 < y1.heap.size := (Array.getElem?_eq_some_iff.1 ah).1
  have HM := mt5_hid o1 d1 hp (fun b h => h) R1.out.2.2.2.2 R1.out.2.2.2.1 av
  unfold nodeC at HM
  clear ah av
  go_wp2_with fail
  refine (HM.out _ (Below.refl _ _)).mono ?_
  rintro _ y2 ⟨rfl, hb⟩
  have R' := Lib.hid (R1.out.up hb)
  clear R1 HM hb a0 a1 a2 a3 a4 a5 az
  have R1 := R'
  clear R'
  have HA := alive_hid R1.out.2.2.2.2 R1.out.2.2.2.1
  go_wp2_with fail
  refine (HA.out _ (Below.refl _ _)).mono ?_
  rintro _ y9 ⟨rfl, hb⟩
  have R8 := Lib.hid (R1.out.up hb)
  clear hb HA R1
  go_wp2
  go_ret
  exact ⟨rfl, R8.out.2.2.1⟩
set_option maxHeartbeats 16000000 in
theorem matches_C {t : RT} {w : World} {ka : Int} {ua : Nat → Int} {pa : Option Addr} {na ca : Nat} (hw0 : 0 < w.heap.size) (hT : Tb w) (V1 : RV (fun b => b < w.heap.size) w t (.agg (nodeC ka ua (.slice pa na ca)))) (o1 : okT t) (d1 : wid t ≤ 9223372036854775806) {x : List UInt8} (hE : checkE t = 0) (hl : ¬ (65536 : Int) < ((x.length : Nat) : Int)) (hl2 : (120 : Int) < ((x.length : Nat) : Int)) :
    Calls Tryd.prog 6 #[.agg #[.int .i64 ka, .int .u64 (ua 0), .int .u64 (ua 1), .int .u64 (ua 2), .int .u64 (ua 3), .slice pa na ca], .string (bs x)] w fun e w' => e = .returned (.bool true) ∧ Below w.heap.size w w' := by
  have S1 := Lib.hid ((Below.refl w.heap.size w).alloc (Nat.le_refl _) (.cells #[.int .i64 ka, .int .u64 (ua 0), .int .u64 (ua 1), .int .u64 (ua 2), .int .u64 (ua 3), .slice pa na ca] 27) : Below w.heap.size w _)
  have B1 := Lib.hid (PBox.new (fun b h => h) V1)
  have HT := Lib.hid hT
  unfold nodeC at B1
  clear V1 hT
  go_enter Tryd.func6, Tryd.ntmps6
  go_upto_region 1 with fail
  refine at_world (fun y => Rst w w.heap.size w.heap.size t t y) ⟨B1.out, B1.out, S1.out, HT.out.mono (S1.out.block 0 hw0), by have := S1.out.size; omega⟩ fun y hy => ?_
  have R1 := Lib.hid hy
  clear B1 S1 hy
  obtain ⟨b1, hb1⟩ : ∃ b1, w.heap.size = b1 := ⟨_, rfl⟩
  rw [hb1] at R1
  have hbl : (bs x).size = x.length := rfl
  obtain ⟨k1, u1, p1, n1, c1, ah, av⟩ := R1.out.1
  have a0 : y.cell? ⟨b1, 0, none⟩ = some (.int .i64 k1) := cell_of_row y b1 0 _ 27 (0, 0) ah
  have a1 : y.cell? ⟨b1, 1, none⟩ = some (.int .u64 (u1 0)) := cell_of_row y b1 1 _ 27 (0, 0) ah
  have a2 : y.cell? ⟨b1, 2, none⟩ = some (.int .u64 (u1 1)) := cell_of_row y b1 2 _ 27 (0, 0) ah
  have a3 : y.cell? ⟨b1, 3, none⟩ = some (.int .u64 (u1 2)) := cell_of_row y b1 3 _ 27 (0, 0) ah
  have a4 : y.cell? ⟨b1, 4, none⟩ = some (.int .u64 (u1 3)) := cell_of_row y b1 4 _ 27 (0, 0) ah
  have a5 : y.cell? ⟨b1, 5, none⟩ = some (.slice p1 n1 c1) := cell_of_row y b1 5 _ 27 (0, 0) ah
  have az : b1 < y.heap.size := (Array.getElem?_eq_some_iff.1 ah).1
  have HM := checkr_hid d1 R1.out.2.2.2.2 R1.out.2.2.2.1 av
  rw [hE] at HM
  unfold nodeC at HM
  clear ah av
  go_wp2_with fail
  refine (HM.out _ (Below.refl _ _)).mono ?_
  rintro _ y1 ⟨rfl, hb⟩
  have R' := Lib.hid (R1.out.up hb)
  clear R1 HM hb a0 a1 a2 a3 a4 a5 az
  have R1 := R'
  clear R'
  go_wp2_with fail
  go_ret
  exact ⟨rfl, R1.out.2.2.1⟩
set_option maxHeartbeats 16000000 in
theorem matches_D {t : RT} {w : World} {ka : Int} {ua : Nat → Int} {pa : Option Addr} {na ca : Nat} (hw0 : 0 < w.heap.size) (hT : Tb w) (V1 : RV (fun b => b < w.heap.size) w t (.agg (nodeC ka ua (.slice pa na ca)))) (o1 : okT t) (d1 : wid t ≤ 9223372036854775806) {x : List UInt8} (hE : checkE t = 0) (hl : ¬ (65536 : Int) < ((x.length : Nat) : Int)) (hl2 : ¬ (120 : Int) < ((x.length : Nat) : Int)) (q1 : decide (120 < sz t) = true) :
    Calls Tryd.prog 6 #[.agg #[.int .i64 ka, .int .u64 (ua 0), .int .u64 (ua 1), .int .u64 (ua 2), .int .u64 (ua 3), .slice pa na ca], .string (bs x)] w fun e w' => e = .returned (.bool true) ∧ Below w.heap.size w w' := by
  have S1 := Lib.hid ((Below.refl w.heap.size w).alloc (Nat.le_refl _) (.cells #[.int .i64 ka, .int .u64 (ua 0), .int .u64 (ua 1), .int .u64 (ua 2), .int .u64 (ua 3), .slice pa na ca] 27) : Below w.heap.size w _)
  have B1 := Lib.hid (PBox.new (fun b h => h) V1)
  have HT := Lib.hid hT
  unfold nodeC at B1
  clear V1 hT
  go_enter Tryd.func6, Tryd.ntmps6
  go_upto_region 1 with fail
  refine at_world (fun y => Rst w w.heap.size w.heap.size t t y) ⟨B1.out, B1.out, S1.out, HT.out.mono (S1.out.block 0 hw0), by have := S1.out.size; omega⟩ fun y hy => ?_
  have R1 := Lib.hid hy
  clear B1 S1 hy
  obtain ⟨b1, hb1⟩ : ∃ b1, w.heap.size = b1 := ⟨_, rfl⟩
  rw [hb1] at R1
  have hbl : (bs x).size = x.length := rfl
  obtain ⟨k1, u1, p1, n1, c1, ah, av⟩ := R1.out.1
  have a0 : y.cell? ⟨b1, 0, none⟩ = some (.int .i64 k1) := cell_of_row y b1 0 _ 27 (0, 0) ah
  have a1 : y.cell? ⟨b1, 1, none⟩ = some (.int .u64 (u1 0)) := cell_of_row y b1 1 _ 27 (0, 0) ah
  have a2 : y.cell? ⟨b1, 2, none⟩ = some (.int .u64 (u1 1)) := cell_of_row y b1 2 _ 27 (0, 0) ah
  have a3 : y.cell? ⟨b1, 3, none⟩ = some (.int .u64 (u1 2)) := cell_of_row y b1 3 _ 27 (0, 0) ah
  have a4 : y.cell? ⟨b1, 4, none⟩ = some (.int .u64 (u1 3)) := cell_of_row y b1 4 _ 27 (0, 0) ah
  have a5 : y.cell? ⟨b1, 5, none⟩ = some (.slice p1 n1 c1) := cell_of_row y b1 5 _ 27 (0, 0) ah
  have az : b1 < y.heap.size := (Array.getElem?_eq_some_iff.1 ah).1
  have HM := checkr_hid d1 R1.out.2.2.2.2 R1.out.2.2.2.1 av
  rw [hE] at HM
  unfold nodeC at HM
  clear ah av
  go_wp2_with fail
  refine (HM.out _ (Below.refl _ _)).mono ?_
  rintro _ y1 ⟨rfl, hb⟩
  have R' := Lib.hid (R1.out.up hb)
  clear R1 HM hb a0 a1 a2 a3 a4 a5 az
  have R1 := R'
  clear R'
  obtain ⟨k2, u2, p2, n2, c2, ah, av⟩ := R1.out.1
  have a0 : y1.cell? ⟨b1, 0, none⟩ = some (.int .i64 k2) := cell_of_row y1 b1 0 _ 27 (0, 0) ah
  have a1 : y1.cell? ⟨b1, 1, none⟩ = some (.int .u64 (u2 0)) := cell_of_row y1 b1 1 _ 27 (0, 0) ah
  have a2 : y1.cell? ⟨b1, 2, none⟩ = some (.int .u64 (u2 1)) := cell_of_row y1 b1 2 _ 27 (0, 0) ah
  have a3 : y1.cell? ⟨b1, 3, none⟩ = some (.int .u64 (u2 2)) := cell_of_row y1 b1 3 _ 27 (0, 0) ah
  have a4 : y1.cell? ⟨b1, 4, none⟩ = some (.int .u64 (u2 3)) := cell_of_row y1 b1 4 _ 27 (0, 0) ah
  have a5 : y1.cell? ⟨b1, 5, none⟩ = some (.slice p2 n2 c2) := cell_of_row y1 b1 5 _ 27 (0, 0) ah
  have az : b1 < y1.heap.size := (Array.getElem?_eq_some_iff.1 ah).1
  have HM := bigd_hid 120 q1 (by omega) d1 (fun b h => h) av
  unfold nodeC at HM
  clear ah av
  go_wp2_with fail
  refine (HM.out _ (Below.refl _ _)).mono ?_
  rintro _ y2 ⟨rfl, hb⟩
  have R' := Lib.hid (R1.out.up hb)
  clear R1 HM hb a0 a1 a2 a3 a4 a5 az
  have R1 := R'
  clear R'
  go_wp2_with fail
  go_ret
  exact ⟨rfl, R1.out.2.2.1⟩
set_option maxHeartbeats 16000000 in
theorem matches_ok {t : RT} {w : World} {ka : Int} {ua : Nat → Int} {pa : Option Addr} {na ca : Nat} (hw0 : 0 < w.heap.size) (hT : Tb w) (V1 : RV (fun b => b < w.heap.size) w t (.agg (nodeC ka ua (.slice pa na ca)))) (o1 : okT t) (d1 : wid t ≤ 9223372036854775806) {x : List UInt8} (hE : checkE t = 0) (hl : ¬ (65536 : Int) < ((x.length : Nat) : Int)) (hl2 : ¬ (120 : Int) < ((x.length : Nat) : Int)) (q1 : decide (120 < sz t) = false) (hw1 : wid t ≤ 1000000) {B : Bool} (hp : mtP t x = (B, 0)) (hB : matB t x = B) :
    Calls Tryd.prog 6 #[.agg #[.int .i64 ka, .int .u64 (ua 0), .int .u64 (ua 1), .int .u64 (ua 2), .int .u64 (ua 3), .slice pa na ca], .string (bs x)] w fun e w' => e = .returned (.bool true) ∧ Below w.heap.size w w' := by
  have S1 := Lib.hid ((Below.refl w.heap.size w).alloc (Nat.le_refl _) (.cells #[.int .i64 ka, .int .u64 (ua 0), .int .u64 (ua 1), .int .u64 (ua 2), .int .u64 (ua 3), .slice pa na ca] 27) : Below w.heap.size w _)
  have B1 := Lib.hid (PBox.new (fun b h => h) V1)
  have HT := Lib.hid hT
  unfold nodeC at B1
  clear V1 hT
  go_enter Tryd.func6, Tryd.ntmps6
  go_upto_region 1 with fail
  refine at_world (fun y => Rst w w.heap.size w.heap.size t t y) ⟨B1.out, B1.out, S1.out, HT.out.mono (S1.out.block 0 hw0), by have := S1.out.size; omega⟩ fun y hy => ?_
  have R1 := Lib.hid hy
  clear B1 S1 hy
  obtain ⟨b1, hb1⟩ : ∃ b1, w.heap.size = b1 := ⟨_, rfl⟩
  rw [hb1] at R1
  have hbl : (bs x).size = x.length := rfl
  obtain ⟨k0, u0, p0, n0, c0, ah, av⟩ := R1.out.1
  have a0 : y.cell? ⟨b1, 0, none⟩ = some (.int .i64 k0) := cell_of_row y b1 0 _ 27 (0, 0) ah
  have a1 : y.cell? ⟨b1, 1, none⟩ = some (.int .u64 (u0 0)) := cell_of_row y b1 1 _ 27 (0, 0) ah
  have a2 : y.cell? ⟨b1, 2, none⟩ = some (.int .u64 (u0 1)) := cell_of_row y b1 2 _ 27 (0, 0) ah
  have a3 : y.cell? ⟨b1, 3, none⟩ = some (.int .u64 (u0 2)) := cell_of_row y b1 3 _ 27 (0, 0) ah
  have a4 : y.cell? ⟨b1, 4, none⟩ = some (.int .u64 (u0 3)) := cell_of_row y b1 4 _ 27 (0, 0) ah
  have a5 : y.cell? ⟨b1, 5, none⟩ = some (.slice p0 n0 c0) := cell_of_row y b1 5 _ 27 (0, 0) ah
  have az : b1 < y.heap.size := (Array.getElem?_eq_some_iff.1 ah).1
  have HM := checkr_hid d1 R1.out.2.2.2.2 R1.out.2.2.2.1 av
  rw [hE] at HM
  unfold nodeC at HM
  clear ah av
  go_wp2_with fail
  refine (HM.out _ (Below.refl _ _)).mono ?_
  rintro _ y0 ⟨rfl, hb⟩
  have R' := Lib.hid (R1.out.up hb)
  clear R1 HM hb a0 a1 a2 a3 a4 a5 az
  have R1 := R'
  clear R'
  obtain ⟨k2, u2, p2, n2, c2, ah, av⟩ := R1.out.1
  have a0 : y0.cell? ⟨b1, 0, none⟩ = some (.int .i64 k2) := cell_of_row y0 b1 0 _ 27 (0, 0) ah
  have a1 : y0.cell? ⟨b1, 1, none⟩ = some (.int .u64 (u2 0)) := cell_of_row y0 b1 1 _ 27 (0, 0) ah
  have a2 : y0.cell? ⟨b1, 2, none⟩ = some (.int .u64 (u2 1)) := cell_of_row y0 b1 2 _ 27 (0, 0) ah
  have a3 : y0.cell? ⟨b1, 3, none⟩ = some (.int .u64 (u2 2)) := cell_of_row y0 b1 3 _ 27 (0, 0) ah
  have a4 : y0.cell? ⟨b1, 4, none⟩ = some (.int .u64 (u2 3)) := cell_of_row y0 b1 4 _ 27 (0, 0) ah
  have a5 : y0.cell? ⟨b1, 5, none⟩ = some (.slice p2 n2 c2) := cell_of_row y0 b1 5 _ 27 (0, 0) ah
  have az : b1 < y0.heap.size := (Array.getElem?_eq_some_iff.1 ah).1
  have HM := bigd_hid 120 q1 (by omega) d1 (fun b h => h) av
  unfold nodeC at HM
  clear ah av
  go_wp2_with fail
  refine (HM.out _ (Below.refl _ _)).mono ?_
  rintro _ y1 ⟨rfl, hb⟩
  have R' := Lib.hid (R1.out.up hb)
  clear R1 HM hb a0 a1 a2 a3 a4 a5 az
  have R1 := R'
  clear R'
  obtain ⟨k1, u1, p1, n1, c1, ah, av⟩ := R1.out.1
  have a0 : y1.cell? ⟨b1, 0, none⟩ = some (.int .i64 k1) := cell_of_row y1 b1 0 _ 27 (0, 0) ah
  have a1 : y1.cell? ⟨b1, 1, none⟩ = some (.int .u64 (u1 0)) := cell_of_row y1 b1 1 _ 27 (0, 0) ah
  have a2 : y1.cell? ⟨b1, 2, none⟩ = some (.int .u64 (u1 1)) := cell_of_row y1 b1 2 _ 27 (0, 0) ah
  have a3 : y1.cell? ⟨b1, 3, none⟩ = some (.int .u64 (u1 2)) := cell_of_row y1 b1 3 _ 27 (0, 0) ah
  have a4 : y1.cell? ⟨b1, 4, none⟩ = some (.int .u64 (u1 3)) := cell_of_row y1 b1 4 _ 27 (0, 0) ah
  have a5 : y1.cell? ⟨b1, 5, none⟩ = some (.slice p1 n1 c1) := cell_of_row y1 b1 5 _ 27 (0, 0) ah
  have az : b1 < y1.heap.size := (Array.getElem?_eq_some_iff.1 ah).1
  have HM := twin_hid hw1 (fun b h => h) av
  unfold nodeC at HM
  clear ah av
  go_wp2_with fail
  refine (HM.out _ (Below.refl _ _)).mono ?_
  rintro _ y2 ⟨⟨v, rfl, ht⟩, hb⟩
  obtain ⟨k, u, p, n, c, rfl⟩ := ht.form2
  have R2 := Lib.hid ((R1.out.up hb).up ((Below.refl _ _).alloc (Nat.le_refl _) (.cells #[.int .i64 k, .int .u64 (u 0), .int .u64 (u 1), .int .u64 (u 2), .int .u64 (u 3), .slice p n c] 27)))
  have TH := Lib.hid (TW.mono (E := fun b => b < (y2.alloc (.cells #[.int .i64 k, .int .u64 (u 0), .int .u64 (u 1), .int .u64 (u 2), .int .u64 (u 3), .slice p n c] 27)).heap.size) (w' := y2.alloc (.cells #[.int .i64 k, .int .u64 (u 0), .int .u64 (u 1), .int .u64 (u 2), .int .u64 (u 3), .slice p n c] 27)) (fun b hb => by simp; omega) (fun b _ hlt => ((Below.refl y2.heap.size y2).alloc (Nat.le_refl _) (.cells #[.int .i64 k, .int .u64 (u 0), .int .u64 (u 1), .int .u64 (u 2), .int .u64 (u 3), .slice p n c] 27)).block b hlt) ht)
  have HX3 := Lib.hid (heap_alloc_last y2 (.cells #[.int .i64 k, .int .u64 (u 0), .int .u64 (u 1), .int .u64 (u 2), .int .u64 (u 3), .slice p n c] 27))
  clear ht hb R1 HM a0 a1 a2 a3 a4 a5 az
  go_upto_region 10 with fail
  refine at_world (fun z => Rst w b1 b1 t t z ∧ TW (fun b => b < z.heap.size) z t (.agg #[.int .i64 k, .int .u64 (u 0), .int .u64 (u 1), .int .u64 (u 2), .int .u64 (u 3), .slice p n c]) ∧ z.heap[y2.heap.size]? = some (.cells #[.int .i64 k, .int .u64 (u 0), .int .u64 (u 1), .int .u64 (u 2), .int .u64 (u 3), .slice p n c] 27)) ⟨R2.out, TH.out, HX3.out⟩ fun z hz => ?_
  obtain ⟨hr, hth, hx3⟩ := hz
  have R1 := Lib.hid hr
  have HT3 := Lib.hid hth
  have HX := Lib.hid hx3
  clear R2 TH HX3 hr hth hx3
  generalize y2.heap.size = b3 at *
  have e0 : z.cell? ⟨b3, 0, none⟩ = some (.int .i64 k) := cell_of_row z b3 0 _ 27 (0, 0) HX.out
  have e1 : z.cell? ⟨b3, 1, none⟩ = some (.int .u64 (u 0)) := cell_of_row z b3 1 _ 27 (0, 0) HX.out
  have e2 : z.cell? ⟨b3, 2, none⟩ = some (.int .u64 (u 1)) := cell_of_row z b3 2 _ 27 (0, 0) HX.out
  have e3 : z.cell? ⟨b3, 3, none⟩ = some (.int .u64 (u 2)) := cell_of_row z b3 3 _ 27 (0, 0) HX.out
  have e4 : z.cell? ⟨b3, 4, none⟩ = some (.int .u64 (u 3)) := cell_of_row z b3 4 _ 27 (0, 0) HX.out
  have e5 : z.cell? ⟨b3, 5, none⟩ = some (.slice p n c) := cell_of_row z b3 5 _ 27 (0, 0) HX.out
  have ez : b3 < z.heap.size := (Array.getElem?_eq_some_iff.1 HX.out).1
  have HM := mt5_hid o1 d1 hp (fun b h => h) R1.out.2.2.2.2 R1.out.2.2.2.1 HT3.out.rv
  go_wp2_with fail
  refine (HM.out _ (Below.refl _ _)).mono ?_
  rintro _ z1 ⟨rfl, hb⟩
  have R' := Lib.hid (R1.out.up hb)
  have HT' := Lib.hid (TW.mono (E := fun b => b < z1.heap.size) (w' := z1) (fun b hl => Nat.lt_of_lt_of_le hl hb.size) (fun b _ hlt => hb.block b hlt) HT3.out)
  have HX' := Lib.hid ((hb.block b3 (Array.getElem?_eq_some_iff.1 HX.out).1).trans HX.out)
  clear R1 HT3 HX HM hb e0 e1 e2 e3 e4 e5 ez
  have R1 := R'
  have HT3 := HT'
  have HX := HX'
  clear R' HT' HX'
  obtain ⟨k2, u2, p2, n2, c2, ah, av⟩ := R1.out.1
  have a0 : z1.cell? ⟨b1, 0, none⟩ = some (.int .i64 k2) := cell_of_row z1 b1 0 _ 27 (0, 0) ah
  have a1 : z1.cell? ⟨b1, 1, none⟩ = some (.int .u64 (u2 0)) := cell_of_row z1 b1 1 _ 27 (0, 0) ah
  have a2 : z1.cell? ⟨b1, 2, none⟩ = some (.int .u64 (u2 1)) := cell_of_row z1 b1 2 _ 27 (0, 0) ah
  have a3 : z1.cell? ⟨b1, 3, none⟩ = some (.int .u64 (u2 2)) := cell_of_row z1 b1 3 _ 27 (0, 0) ah
  have a4 : z1.cell? ⟨b1, 4, none⟩ = some (.int .u64 (u2 3)) := cell_of_row z1 b1 4 _ 27 (0, 0) ah
  have a5 : z1.cell? ⟨b1, 5, none⟩ = some (.slice p2 n2 c2) := cell_of_row z1 b1 5 _ 27 (0, 0) ah
  have az : b1 < z1.heap.size := (Array.getElem?_eq_some_iff.1 ah).1
  have HM := whole_hid hE o1 (x := x) (by omega) (fun b h => h) av
  rw [hB] at HM
  unfold nodeC at HM
  clear ah av
  go_wp2_with fail
  refine (HM.out _ (Below.refl _ _)).mono ?_
  rintro _ z2 ⟨rfl, hb⟩
  have R' := Lib.hid (R1.out.up hb)
  have HT' := Lib.hid (TW.mono (E := fun b => b < z2.heap.size) (w' := z2) (fun b hl => Nat.lt_of_lt_of_le hl hb.size) (fun b _ hlt => hb.block b hlt) HT3.out)
  have HX' := Lib.hid ((hb.block b3 (Array.getElem?_eq_some_iff.1 HX.out).1).trans HX.out)
  clear R1 HT3 HX HM hb a0 a1 a2 a3 a4 a5 az
  have R1 := R'
  have HT3 := HT'
  have HX := HX'
  clear R' HT' HX'
  have e0 : z2.cell? ⟨b3, 0, none⟩ = some (.int .i64 k) := cell_of_row z2 b3 0 _ 27 (0, 0) HX.out
  have e1 : z2.cell? ⟨b3, 1, none⟩ = some (.int .u64 (u 0)) := cell_of_row z2 b3 1 _ 27 (0, 0) HX.out
  have e2 : z2.cell? ⟨b3, 2, none⟩ = some (.int .u64 (u 1)) := cell_of_row z2 b3 2 _ 27 (0, 0) HX.out
  have e3 : z2.cell? ⟨b3, 3, none⟩ = some (.int .u64 (u 2)) := cell_of_row z2 b3 3 _ 27 (0, 0) HX.out
  have e4 : z2.cell? ⟨b3, 4, none⟩ = some (.int .u64 (u 3)) := cell_of_row z2 b3 4 _ 27 (0, 0) HX.out
  have e5 : z2.cell? ⟨b3, 5, none⟩ = some (.slice p n c) := cell_of_row z2 b3 5 _ 27 (0, 0) HX.out
  have ez : b3 < z2.heap.size := (Array.getElem?_eq_some_iff.1 HX.out).1
  obtain ⟨k3, u3, p3, n3, c3, ah, av⟩ := R1.out.1
  have a0 : z2.cell? ⟨b1, 0, none⟩ = some (.int .i64 k3) := cell_of_row z2 b1 0 _ 27 (0, 0) ah
  have a1 : z2.cell? ⟨b1, 1, none⟩ = some (.int .u64 (u3 0)) := cell_of_row z2 b1 1 _ 27 (0, 0) ah
  have a2 : z2.cell? ⟨b1, 2, none⟩ = some (.int .u64 (u3 1)) := cell_of_row z2 b1 2 _ 27 (0, 0) ah
  have a3 : z2.cell? ⟨b1, 3, none⟩ = some (.int .u64 (u3 2)) := cell_of_row z2 b1 3 _ 27 (0, 0) ah
  have a4 : z2.cell? ⟨b1, 4, none⟩ = some (.int .u64 (u3 3)) := cell_of_row z2 b1 4 _ 27 (0, 0) ah
  have a5 : z2.cell? ⟨b1, 5, none⟩ = some (.slice p3 n3 c3) := cell_of_row z2 b1 5 _ 27 (0, 0) ah
  have az : b1 < z2.heap.size := (Array.getElem?_eq_some_iff.1 ah).1
  have HM := left_hid hw1 (fun b h => h) (fun b h => h) HT3.out av
  unfold nodeC at HM
  clear ah av
  cases B
  all_goals
    go_wp2_with fail
    refine (HM.out _ (Below.refl _ _)).mono ?_
    rintro _ z3 ⟨rfl, hb⟩
    have R' := Lib.hid (R1.out.up hb)
    clear R1 HT3 HX HM hb e0 e1 e2 e3 e4 e5 ez a0 a1 a2 a3 a4 a5 az
    have R1 := R'
    clear R'
    have HA := alive_hid R1.out.2.2.2.2 R1.out.2.2.2.1
    go_wp2_with fail
    refine (HA.out _ (Below.refl _ _)).mono ?_
    rintro _ y9 ⟨rfl, hb⟩
    have R8 := Lib.hid (R1.out.up hb)
    clear hb HA R1
    go_wp2
    go_ret
    exact ⟨rfl, R8.out.2.2.1⟩
theorem matches5_any {t : RT} (s : ByteArray) {w : World} {ka : Int} {ua : Nat → Int} {pa : Option Addr} {na ca : Nat} (hw0 : 0 < w.heap.size) (hT : Tb w) (V1 : RV (fun b => b < w.heap.size) w t (.agg (nodeC ka ua (.slice pa na ca)))) (o1 : okT t) (d1 : wid t ≤ 9223372036854775806) :
    Calls Tryd.prog 6 #[.agg #[.int .i64 ka, .int .u64 (ua 0), .int .u64 (ua 1), .int .u64 (ua 2), .int .u64 (ua 3), .slice pa na ca], .string s] w fun e w' => e = .returned (.bool true) ∧ Below w.heap.size w w' := by
  rw [← bs_list5 s]
  generalize s.data.toList = x
  by_cases hc : checkE t = 0
  · by_cases h1 : 65536 < x.length
    · exact matches_B hw0 hT V1 o1 d1 hc (by omega) (by unfold mtP; rw [if_neg (by omega), if_pos h1])
    · by_cases h2 : 120 < x.length
      · exact matches_C hw0 hT V1 o1 d1 hc (by omega) (by omega)
      · by_cases q : 120 < sz t
        · exact matches_D hw0 hT V1 o1 d1 hc (by omega) (by omega) (by simpa using q)
        · exact matches_ok hw0 hT V1 o1 d1 hc (by omega) (by omega) (by simpa using q) (by have := wid_sz t; omega) (match_ok hc (by omega)) rfl
  · exact matches_A hw0 hT V1 o1 d1 rfl (by rw [bne_iff_ne]; exact hc) (by rw [beq_eq_false_iff_ne]; exact hc) (mtP_err hc)
end
end Go.Proofs.YtmjojahkbjlcdaaDoor
