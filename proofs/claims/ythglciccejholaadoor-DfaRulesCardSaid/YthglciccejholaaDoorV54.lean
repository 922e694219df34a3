/- Texts, one behind the other. -/
import Derived.Test.YthglciccejholaaDoorV51
import Derived.Test.YthglciccejholaaDoorBg
import Derived.Deep.SlicePairs
import Derived.OpenShut
import Derived.Test.YthglciccejholaaDoorRows
import Derived.ProofKit
import Derived.LaidMore
import Derived.Stop.Joined
import Derived.Lib.LaidTab
set_option linter.unusedSimpArgs false
set_option linter.unusedVariables false
section
/- Texts of package regs, one behind the other. -/
section
namespace Go.Proofs.YthglciccejholaaDoor.R5
set_option maxRecDepth 100000
open Go.RowKit
theorem bs_data (s : ByteArray) : bs s.data.toList = s := by
  obtain ⟨⟨l⟩⟩ := s
  rfl
end Go.Proofs.YthglciccejholaaDoor.R5
end
section
namespace Go.Proofs.YthglciccejholaaDoor
set_option maxRecDepth 100000
open Go.RowKit Go.Shelf
def Mx (ts : List RT) (x : List UInt8) (j : Nat) : Bool := match ts[j]? with | some t => R5.matB t x | none => false
theorem Mx_at {ts : List RT} {x : List UInt8} {j : Nat} (h : j < ts.length) : Mx ts x j = R5.matB ts[j] x := by
  unfold Mx; rw [List.getElem?_eq_getElem h]
def wF (M : Nat → Bool) (n k : Nat) : Int := hd1 (((List.range' k (n - k)).filter M).map fun (r : Nat) => (r : Int))
theorem wF_end (M : Nat → Bool) (n : Nat) : wF M n n = -1 := by unfold wF; simp [hd1]
theorem wF_yes {M : Nat → Bool} {n j : Nat} (h : j < n) (hm : M j = true) : wF M n j = (j : Int) := by
  unfold wF
  have e : n - j = (n - (j + 1)) + 1 := by omega
  rw [e, List.range'_succ, List.filter_cons, if_pos hm]
  rfl
theorem wF_no {M : Nat → Bool} {n j : Nat} (h : j < n) (hm : M j = false) : wF M n j = wF M n (j + 1) := by
  unfold wF
  have e : n - j = (n - (j + 1)) + 1 := by omega
  rw [e, List.range'_succ, List.filter_cons, if_neg (by rw [hm]; simp)]
theorem dec_iff {p : Prop} {i : Decidable p} {b : Bool} (h : p ↔ b = true) : @decide p i = b := by
  cases i with
  | isTrue hp => exact (h.1 hp).symm
  | isFalse hn => cases b with
    | false => rfl
    | true => exact absurd (h.2 rfl) hn
theorem accT_M {ts : List RT} (h : refE ts = 0) (x : List UInt8) : accT ts x = ((List.range' 0 ts.length).filter (Mx ts x)).map fun (r : Nat) => (r : Int) := by
  unfold accT
  rw [List.range_eq_range']
  congr 1
  refine List.filter_congr fun r hr => ?_
  have hr' : r < ts.length := by have := List.mem_range'_1.1 hr; omega
  have he : ts[r]? = some ts[r] := List.getElem?_eq_getElem hr'
  have hc := (refE_iff.1 h).2.1 ts[r] (List.getElem_mem hr')
  obtain ⟨hm, hs, _⟩ := R5.checkE_ok hc
  have h1 := R5.matB_ok hm hs x
  have h2 := R5.lt_lg ts[r] x hm
  rw [Mx_at hr']
  refine dec_iff ⟨fun ⟨t, e, hl⟩ => ?_, fun hb => ⟨ts[r], he, h2.2 (h1.1 hb)⟩⟩
  rw [he] at e
  injection e with e
  subst e
  exact h1.2 (h2.1 hl)
theorem rules_facts {ts : List RT} (h : refE ts = 0) (ho : ∀ t ∈ ts, okT t) : (∀ s ∈ ssR ts, s.fr.length ≤ 9223372036854775806) ∧ (ssR ts).length ≤ 9223372036854775806 ∧ (∀ s ∈ ssR ts, okW s.u) ∧ chkN (stR ts) (ssR ts) = 0 := by
  obtain ⟨h1, -, h3, -⟩ := refE_iff.1 h
  obtain ⟨hc, hl⟩ := ofF_chk h1 h3
  unfold ssR stR
  rw [if_pos h, if_pos h]
  exact ⟨ofF_fr h1 h3, by omega, ofF_okW ho, hc⟩
theorem ofD_err {st : Int} {ss : List Nst} {d : Df} {e : Int} (hc : chkN st ss = 0) (h : ofD st ss = (d, e)) (he : e ≠ 0) : e = 3 := by
  unfold ofD at h
  rw [if_neg (by omega)] at h
  obtain ⟨⟨ok, S, N⟩, hF⟩ : ∃ F, ofF st ss = F := ⟨_, rfl⟩
  rw [hF] at h
  cases ok with
  | false =>
    rw [if_neg (by simp)] at h
    exact (congrArg Prod.snd h).symm
  | true =>
    rw [if_pos rfl] at h
    exact absurd (congrArg Prod.snd h).symm he
theorem rules_err {ts : List RT} {d : Df} {e : Int} (h : refE ts = 0) (ho : ∀ t ∈ ts, okT t) (hd : ofD (stR ts) (ssR ts) = (d, e)) (he : e ≠ 0) : e = 3 :=
  ofD_err (rules_facts h ho).2.2.2 hd he
theorem rules_math {ts : List RT} {d : Df} (h : refE ts = 0) (hd : ofD (stR ts) (ssR ts) = (d, 0)) (x : List UInt8) : ruleF d (x.map UInt8.toNat) = (wF (Mx ts x) ts.length 0, 0) := by
  obtain ⟨hck, s0, S, N, hs0, hck0, hsem, hd2⟩ := sem_ofD hd
  have htm := tells_math hck0 hsem x
  rw [← hd2, ← hs0] at htm
  rw [htm]
  obtain ⟨h1, -, h3, -⟩ := refE_iff.1 h
  have ha : accL hasU (stR ts) (ssR ts) x = accT ts x := by
    unfold ssR stR
    rw [if_pos h, if_pos h]
    exact ofF_acc h1 h3 x
  rw [ha, accT_M h]
  rfl
theorem mtP_at {ts : List RT} (h : refE ts = 0) {t : RT} (ht : t ∈ ts) {x : List UInt8} (hx : x.length ≤ 65536) : R5.mtP t x = (R5.matB t x, 0) := by
  have hc := (refE_iff.1 h).2.1 t ht
  unfold R5.mtP
  rw [if_neg (by rw [hc]; simp), if_neg (by omega)]
end Go.Proofs.YthglciccejholaaDoor
end
section
namespace Go.Proofs.YthglciccejholaaDoor
set_option maxRecDepth 100000
open Go.RowKit
theorem TB.nil {w0 w : World} {D : Nat → Prop} {sl : Value} (h : w.ownsRow w0.heap.size 27 6 sl 0 []) : TB w0 D [] sl w := ⟨[], rfl, by simp, by simp, h⟩
theorem TB.tree {w0 w : World} {D : Nat → Prop} {ts : List RT} {sl : Value} (hD : ∀ b, D b → b < w0.heap.size) (hb : Below w0.heap.size w0 w) (h : TB w0 D ts sl w) : RV (fun b => b < w.heap.size) w (.mk 0 u0 ts) (.agg (nodeC 0 u0 sl)) := by
  obtain ⟨xs, h1, h2, h3, h4⟩ := h
  have h6 := nodes_six h2
  have hs := hb.size
  rcases h4.2 with ⟨hv, hn⟩ | ⟨g, cap, cur, hv, hg, hh, hc1, hc2, hc3, hc4⟩
  · subst hv
    obtain rfl : ts = [] := List.eq_nil_of_length_eq_zero hn
    exact .leaf 0 u0 none 0
  · subst hv
    by_cases hne : ts = []
    · subst hne; exact .leaf 0 u0 _ _
    · exact .node 0 u0 ts g 0 cap (fun i => if h : i < xs.length then xs[i] else #[]) (Array.getElem?_eq_some_iff.1 hh).1 hne (fun i hi => by
        rw [dif_pos (by omega)]
        exact (h3 i hi (by omega)).mono (fun b h => by have := hD b h; omega) (fun b h _ => hb.block b (hD b h))) (fun i hi j hj => by
        have hx6 := h6 xs[i] (List.getElem_mem (by omega))
        refine ⟨(xs[i]'(by omega))[j]'(by omega), by rw [dif_pos (by omega)]; exact Array.getElem?_eq_getElem (by omega), ?_⟩
        have h7 := flat6_get xs h6 i (by omega) j hj
        rw [cell_of_row w g _ _ 27 (0, 0) hh, Nat.zero_add, ← Array.getElem?_eq_getElem (by omega), ← h7, ← hc4, List.getElem?_take_of_lt (by omega), Array.getElem?_toList])
theorem widL_hw : ∀ {ts : List RT}, (∀ t ∈ ts, wid t ≤ 9223372036854775806) → widL ts ≤ 9223372036854775806
  | [], _ => by simp [widL]
  | t :: r, h => by
    have h1 := widL_hw (ts := r) fun x hx => h x (List.mem_cons_of_mem _ hx)
    have h2 := h t (List.mem_cons_self ..)
    simp only [widL]; omega
set_option maxHeartbeats 8000000 in
theorem rulesbig_any {D : Nat → Prop} {w : World} {ts : List RT} {q : Option Addr} {f : Nat} (m : Nat) (hm : m ≤ 1000000) (hD : ∀ b, D b → b < w.heap.size) (hR : RuV D w ts (.slice q ts.length f)) (hln : ts.length ≤ 9223372036854775806) (hwid : ∀ t ∈ ts, wid t ≤ 9223372036854775806) :
    Calls Tryd.prog 35 #[.slice q ts.length f, .int .i64 (m : Nat)] w fun e w' => e = .returned (.bool (decide (m < ts.length) || decide (m < szL ts + 1))) ∧ Below w.heap.size w w' := by
  obtain ⟨i0, hi, hz0, hz1, hz2⟩ := info_parts infoN6
  have HR := Lib.hid hR
  have HD := Lib.hid hD
  have HWID := Lib.hid hwid
  have hz := zero27r
  clear hR hD hwid
  by_cases hbg : m < ts.length
  · have hbg2 : ((m : Nat) : Int) < ((ts.length : Nat) : Int) := by omega
    rw [decide_eq_true hbg, Bool.true_or]
    go_enter Tryd.func35, Tryd.ntmps35
    go_wp2_with fail
    go_ret
    exact ⟨rfl, Below.refl _ _⟩
  have hbg2 : ¬ ((m : Nat) : Int) < ((ts.length : Nat) : Int) := by omega
  rw [decide_eq_false hbg, Bool.false_or]
  go_enter Tryd.func35, Tryd.ntmps35
  go_wp2_with (at_make; refine wpList_make_own _ rfl (.const (.int .i64 0)) (.tmp 12) 25 rfl w.heap.size 27 i0 (.agg (nodeC 0 u0 (.slice none 0 0))) 6 Tryd.underlying25 hi hz0 hz1 .i64 .i64 _ ts.length rfl rfl ?k1 ?k2 ?k3 ?k4 ?_)
  case k1 => rfl
  case k2 => omega
  case k3 => unfold maxLen; omega
  intro wa howna hgrowa
  have HT0 : Hid (TB w D (ts.take 0) (.slice (some ⟨w.heap.size, 0, none⟩) 0 ts.length) wa) := Lib.hid (TB.nil howna)
  have HB0 : Hid (Below w.heap.size w wa) := Lib.hid (below_grown6 (Below.refl _ _) hgrowa (fun g h => by cases h) (Nat.le_refl _))
  clear howna hgrowa
  go_wp2_with fail
  go_loopw [5, 6] (fun sl i wr => ∃ j : Nat, i = .int .i64 (j : Nat) ∧ j ≤ ts.length ∧ Hid (TB w D (ts.take j) sl wr) ∧ Hid (Below w.heap.size w wr)) (fun _ i _ => ts.length - (intOf i).toNat)
  case atStart => exact ⟨0, rfl, by omega, HT0, HB0⟩
  case round =>
    obtain ⟨j, rfl, hj, HT, HB⟩ := hrel
    clear HT0 HB0
    obtain ⟨a, cc, hsl⟩ := HT.out.sl
    have hlj : (ts.take j).length = j := by simp; omega
    rw [hlj] at hsl
    subst hsl
    by_cases hlt : j < ts.length
    · have hltI : (j : Int) < ((ts.length : Nat) : Int) := by omega
      have hjI : ¬ (j : Int) < 0 := by omega
      obtain ⟨q', f', he, hh⟩ := HR.out
      cases he
      obtain ⟨b, o, rfl, hDb, hx⟩ := hh (by intro e; subst e; simp at hlt)
      obtain ⟨kd, k5, u5, p5, n5, c5', hv5, hcell⟩ := hx j hlt
      have hbw := HD.out b hDb
      have ce : ∀ i y, (#[.int .i64 kd, .int .i64 k5, .int .u64 (u5 0), .int .u64 (u5 1), .int .u64 (u5 2), .int .u64 (u5 3), .slice p5 n5 c5'] : Array Value)[i]? = some y → wr.cell? ⟨b, o + j * 7 + i, none⟩ = some y := fun i y hy => (cell_same (HB.out.block b hbw) _).trans (hcell i y hy)
      have d1 : wr.cell? ⟨b, o + j * 7 + 1, none⟩ = some (.int .i64 k5) := ce 1 _ rfl
      have d2 : wr.cell? ⟨b, o + j * 7 + 2, none⟩ = some (.int .u64 (u5 0)) := ce 2 _ rfl
      have d3 : wr.cell? ⟨b, o + j * 7 + 3, none⟩ = some (.int .u64 (u5 1)) := ce 3 _ rfl
      have d4 : wr.cell? ⟨b, o + j * 7 + 4, none⟩ = some (.int .u64 (u5 2)) := ce 4 _ rfl
      have d5 : wr.cell? ⟨b, o + j * 7 + 5, none⟩ = some (.int .u64 (u5 3)) := ce 5 _ rfl
      have d6 : wr.cell? ⟨b, o + j * 7 + 6, none⟩ = some (.slice p5 n5 c5') := ce 6 _ rfl
      obtain ⟨xs, x1, x2, x3, x4⟩ := HT.out
      rw [hlj] at x4
      have X1 := Lib.hid x1
      have X2 := Lib.hid x2
      have X3 := Lib.hid x3
      have X4 := Lib.hid (World.ownsRow.alloc x4 (.cells #[.int .i64 k5, .int .u64 (u5 0), .int .u64 (u5 1), .int .u64 (u5 2), .int .u64 (u5 3), .slice p5 n5 c5'] 27))
      have HC0 : Hid (∀ j u, (nodeC k5 u5 (.slice p5 n5 c5')).toList[j]? = some u → (wr.alloc (.cells #[.int .i64 k5, .int .u64 (u5 0), .int .u64 (u5 1), .int .u64 (u5 2), .int .u64 (u5 3), .slice p5 n5 c5'] 27)).cell? ((⟨wr.heap.size, 0, none⟩ : Addr).add j) = some u) := Lib.hid fun j u hj => by
        rw [Addr.add_mid, cell_of_row _ wr.heap.size (0 + j) _ 27 (0, 0) (heap_alloc_last wr _), Nat.zero_add]
        rw [Array.getElem?_toList] at hj; exact hj
      have HV5 := Lib.hid hv5
      have hwl := HB.out.size
      have HA : Hid (Below wr.heap.size wr (wr.alloc (.cells #[.int .i64 k5, .int .u64 (u5 0), .int .u64 (u5 1), .int .u64 (u5 2), .int .u64 (u5 3), .slice p5 n5 c5'] 27))) := Lib.hid ((Below.refl _ _).alloc (Nat.le_refl _) _)
      clear ce hcell hx hh x1 x2 x3 x4 hv5
      go_wp2_with (at_builtin; refine wpList_append_own_at _ rfl (.tmp 20) (.tmp 26) 25 rfl w.heap.size 27 i0 (.agg (nodeC 0 u0 (.slice none 0 0))) 6 64 Tryd.underlying25 hi hz0 hz1 hz2 rfl (by decide) (.slice a j cc) j (flat6 xs) rfl ?c0 ⟨wr.heap.size, 0, none⟩ 1 1 (nodeC k5 u5 (.slice p5 n5 c5')).toList rfl rfl ?c1 ?c2 ?c3 ?c4 ?c5 ?_)
      case c0 => exact X4.out
      case c1 => exact fun j u hu => by rw [← Array.getElem?_toList] at hu; exact hu
      case c2 => exact fun u hu => (Array.all_eq_true_iff_forall_mem.1 (nodeC_one k5 u5 p5 n5 c5')) u (by simpa using hu)
      case c3 => unfold maxLen; omega
      case c4 => omega
      case c5 => exact Nat.le_trans hwl (by simp)
      intro v' w7 hown7 hgrow7 _ hat7
      have hbase := fun g (hg : (Value.slice a j cc).ownBlock = some g) => (World.ownsRow.lt X4.out g hg).1
      have htk : ts.take (j + 1) = ts.take j ++ [ts[j]] := List.take_succ_eq_append_getElem hlt
      have HTA : Hid (TB w D (ts.take (j + 1)) v' w7) := Lib.hid (by
        rw [htk]
        exact TB.app X1.out X2.out X3.out HV5.out (by rw [hlj]; exact hown7))
      have HBA : Hid (Below w.heap.size w w7) := Lib.hid (below_grown6 (HB.out.trans (HA.out.mono hwl)) hgrow7 hbase (Nat.le_trans hwl HA.out.size))
      clear hown7 hgrow7 hat7 hbase htk X1 X2 X3 X4 HC0 HV5 HT HB HA d1 d2 d3 d4 d5 d6
      go_wp2_with fail
      go_roundw
      case rel => exact ⟨j + 1, by go_num, by omega, HTA, HBA⟩
      case measure => simp [intOf]; omega
    · obtain rfl : j = ts.length := by omega
      have hltI : ¬ ((ts.length : Nat) : Int) < ((ts.length : Nat) : Int) := by omega
      rw [List.take_length] at HT
      have HBG := Lib.hid (rbig_any (w := wr) m hm (t := .mk 0 u0 ts) (by have := widL_hw HWID.out; simp only [wid]; omega) (fun _ h => h) (HT.out.tree HD.out HB.out))
      rw [show sz (.mk 0 u0 ts) = szL ts + 1 by rw [sz]] at HBG
      unfold nodeC u0 at HBG
      go_wp2_with fail
      refine (HBG.out).mono ?_
      rintro _ y ⟨rfl, hb⟩
      have HE := Lib.hid (HB.out.trans (hb.mono HB.out.size))
      clear hb
      go_wp2_with fail
      go_ret
      exact ⟨rfl, HE.out⟩
end Go.Proofs.YthglciccejholaaDoor
end
section
namespace Go.Proofs.YthglciccejholaaDoor
set_option maxRecDepth 100000
open Go.RowKit
open Go.ChangeShapes Go.WideShapes in
theorem weightsAll_mem {H : Type} {P : Program} {e : TypeId} : ∀ {ds : List (DataW H)} {d : DataW H}, d ∈ ds → ∀ n ∈ d.weights P e, n ∈ DataW.weightsAll P e ds
  | a :: ds, d, h, n, hn => by
    rw [DataW.weightsAll]
    rcases List.mem_cons.1 h with rfl | h
    · exact List.mem_append_left _ hn
    · exact List.mem_append_right _ (weightsAll_mem h n hn)
open Go.ChangeShapes Go.WideShapes Go.Deep in
theorem words_open {H : Type} {enc : TypeId × Value → H} {w : World} {base : Nat} {sp : Nat → Bool} {held : Bool} {fuel : Nat} {c0 c1 c2 c3 : Value} {x : DataW H × List MemPlace} (h : DataW.trod enc Tryd.prog w base sp held fuel 24 [c0, c1, c2, c3] = some x) :
    ∃ u : Nat → Int, c0 = .int .u64 (u 0) ∧ c1 = .int .u64 (u 1) ∧ c2 = .int .u64 (u 2) ∧ c3 = .int .u64 (u 3) ∧ ∀ i, 0 ≤ u i ∧ u i ≤ 18446744073709551615 := by
  obtain ⟨y0, y1, y2, y3, m, hx, hy0, hy1, hy2, hy3⟩ := trod_array4 Tryd.underlying24 (by kernel_rfl) h
  obtain ⟨x0, e0, rfl, w0⟩ := DataW.trod_int Tryd.underlying22 hy0
  obtain ⟨x1, e1, rfl, w1⟩ := DataW.trod_int Tryd.underlying22 hy1
  obtain ⟨x2, e2, rfl, w2⟩ := DataW.trod_int Tryd.underlying22 hy2
  obtain ⟨x3, e3, rfl, w3⟩ := DataW.trod_int Tryd.underlying22 hy3
  simp at e0 e1 e2 e3
  subst e0 e1 e2 e3
  have g : ∀ n : Int, (Lit.int .u64 n).wf = true → 0 ≤ n ∧ n ≤ 18446744073709551615 := fun n h => by
    simpa [Lit.wf, IntKind.min, IntKind.max, IntKind.signed, IntKind.bits] using h
  refine ⟨fun i => if i = 0 then x0 else if i = 1 then x1 else if i = 2 then x2 else x3, rfl, rfl, rfl, rfl, fun i => ?_⟩
  simp only
  split
  · exact g _ w0
  · split
    · exact g _ w1
    · split
      · exact g _ w2
      · exact g _ w3
end Go.Proofs.YthglciccejholaaDoor
end
end
section
/- Texts of package regs, one behind the other. -/
section
namespace Go.Proofs.YthglciccejholaaDoor
set_option maxRecDepth 100000
open Go.RowKit
theorem okTL_of : ∀ {ts : List RT}, (∀ t ∈ ts, okT t) → okTL ts
  | [], _ => by rw [okTL]; trivial
  | t :: ts, h => by rw [okTL]; exact ⟨h t (List.mem_cons_self ..), okTL_of fun x hx => h x (List.mem_cons_of_mem _ hx)⟩
theorem widL_of {n : Nat} : ∀ {ts : List RT}, (∀ t ∈ ts, wid t ≤ n) → widL ts ≤ n
  | [], _ => by simp [widL]
  | t :: ts, h => by
    have h1 := h t (List.mem_cons_self ..)
    have h2 := widL_of (ts := ts) fun x hx => h x (List.mem_cons_of_mem _ hx)
    simp only [widL]; omega
theorem bytes56 : Tryd.prog.bytesOf 27 = 64 := by kernel_rfl
theorem cells56 : Tryd.prog.cellsOf 27 = 6 := by kernel_rfl
theorem bytes58 : Tryd.prog.bytesOf 29 = 72 := by kernel_rfl
theorem cells58 : Tryd.prog.cellsOf 29 = 7 := by kernel_rfl
open Go.ChangeShapes Go.WideShapes Go.Deep in
theorem tree_open {H : Type} {enc : TypeId × Value → H} {w : World} {held : Bool} : ∀ (m fuel : Nat), fuel ≤ m → ∀ {cs : List Value} {d : DataW H} {pl : List MemPlace}, DataW.trod enc Tryd.prog w 0 (fun _ => true) held fuel 27 cs = some (d, pl) →
    (∀ n ∈ d.weights Tryd.prog 27, n ≤ reachBytes) → ∃ t : RT, RV (fun b => b < w.heap.size) w t (.agg cs.toArray) ∧ wid t ≤ 9223372036854775806 ∧ okT t ∧ cs.length = 6
  | 0, fuel, hm, cs, d, pl, h, _ => by
    obtain rfl : fuel = 0 := by omega
    simp [DataW.trod] at h
  | m + 1, fuel, hm, cs, d, pl, h, hw => by
    obtain ⟨xs, n, rfl, hx, hlen, hxl, hf⟩ := DataW.trod_struct Tryd.underlying27 h
    rw [cells56] at hlen
    match cs, hlen with
    | [c0, c1, c2, c3, c4, c5], _ =>
      have f0 := hf 0 _ rfl
      have f1 := hf 1 _ rfl
      have f2 := hf 2 _ rfl
      have hxl3 : xs.length = 3 := hxl
      match xs, hxl3 with
      | [y0, y1, y2], _ =>
        have g0 : DataW.trod enc Tryd.prog w 0 (fun _ => true) held n 3 [c0] = some y0 := f0
        have g1 : DataW.trod enc Tryd.prog w 0 (fun _ => true) held n 24 [c1, c2, c3, c4] = some y1 := f1
        have g2 : DataW.trod enc Tryd.prog w 0 (fun _ => true) held n 25 [c5] = some y2 := f2
        obtain ⟨k, e0, -, -⟩ := DataW.trod_int Tryd.underlying3 g0
        obtain rfl : c0 = .int .i64 k := by simpa using e0
        obtain ⟨f, rfl, rfl, rfl, rfl, hokf⟩ := words_open g1
        have hd : d = .agg [y0.1, y1.1, y2.1] := by simpa using (Prod.mk.inj hx).1
        have hw2 : ∀ q ∈ y2.1.weights Tryd.prog 25, q ≤ reachBytes := fun q hq => by
          refine hw q ?_
          rw [hd]
          unfold DataW.weights
          rw [Tryd.underlying27]
          exact DataW.weights_mem_each (j := 2) (t := 25) (d := y2.1) rfl rfl q hq
        rcases DataW.trod_slice Tryd.underlying25 g2 with ⟨e5, -⟩ | ⟨a, len, cap, elems, rest, n', rfl, e5, hy2, hb, hl, hm', hlen, hel, -, -⟩
        · obtain rfl : c5 = .slice none 0 0 := by simpa using e5
          exact ⟨.mk k f [], .leaf k f none 0, by simp [wid, widL], by rw [okT, okTL]; exact ⟨hokf, trivial⟩, rfl⟩
        · obtain rfl : c5 = .slice (some a) len cap := by simpa using e5
          have hw3 : (elems.length + rest.length) * 64 ≤ reachBytes ∧ ∀ y ∈ elems, ∀ q ∈ y.1.weights Tryd.prog 27, q ≤ reachBytes := by
            rw [hy2] at hw2
            unfold DataW.weights at hw2
            rw [Tryd.underlying25] at hw2
            simp only [List.length_map, bytes56] at hw2
            refine ⟨hw2 _ (List.mem_cons_self ..), fun y hy q hq => hw2 q (List.mem_cons_of_mem _ (List.mem_append_left _ (weightsAll_mem (List.mem_map_of_mem hy) q hq)))⟩
          have hlb : len ≤ 9223372036854775806 := by
            have := reachBytes_lt
            omega
          have each : ∀ i, i < len → ∃ q : RT × Array Value, RV (fun b => b < w.heap.size) w q.1 (.agg q.2) ∧ wid q.1 ≤ 9223372036854775806 ∧ okT q.1 ∧ q.2.size = 6 ∧ ∀ j, j < 6 → w.cell? ((a.add (i * 6)).add j) = q.2[j]? := fun i hi => by
            have h1 := hel i hi
            rw [List.getElem?_eq_getElem (by omega), cells56] at h1
            obtain ⟨cs', h2, h3⟩ := Option.bind_eq_some_iff.1 h1
            obtain ⟨_, hcl, hcell⟩ := World.cells?_some h2
            obtain ⟨t, ht, h4, h5, h6⟩ := tree_open m n' (by omega) (d := elems[i].1) (pl := elems[i].2) h3 (hw3.2 _ (List.getElem_mem _))
            exact ⟨(t, cs'.toArray), ht, h4, h5, by simpa using h6, fun j hj => by rw [hcell j hj]; simp⟩
          by_cases h0 : len = 0
          · subst h0
            exact ⟨.mk k f [], .leaf k f (some a) cap, by simp [wid, widL], by rw [okT, okTL]; exact ⟨hokf, trivial⟩, rfl⟩
          · have : Inhabited (RT × Array Value) := ⟨(.mk 0 u0 [], #[])⟩
            obtain ⟨q, hq⟩ := choose_lt each
            have hc0 := (hq 0 (by omega)).2.2.2.2 0 (by omega)
            rw [Array.getElem?_eq_getElem (by rw [(hq 0 (by omega)).2.2.2.1]; omega)] at hc0
            have hspot : a.spot = none := by
              have := World.cell?_spot hc0
              simpa [Addr.add] using this
            obtain ⟨b, o, sp⟩ := a
            simp only at hspot
            subst hspot
            have hbl := World.block_lt_of_cell? w _ hc0
            have hbl2 : b < w.heap.size := by simpa [Addr.add] using hbl
            have hpl : ((List.range len).map fun i => (q i).1).length = len := by simp
            refine ⟨.mk k f ((List.range len).map fun i => (q i).1), ?_, ?_, ?_, rfl⟩
            · have hn : ((List.range len).map fun i => (q i).1) ≠ [] := fun e => h0 (by rw [e] at hpl; exact hpl.symm)
              have := RV.node (D := fun b => b < w.heap.size) (w := w) k f ((List.range len).map fun i => (q i).1) b o cap (fun i => (q i).2) hbl2 hn (fun i hi => by
                have hi' : i < len := by rw [hpl] at hi; exact hi
                have e : ((List.range len).map fun i => (q i).1)[i] = (q i).1 := by simp
                rw [e]; exact (hq i hi').1) (fun i hi j hj => by
                have hi' : i < len := by rw [hpl] at hi; exact hi
                have h1 := (hq i hi').2.2.2.2 j hj
                have h2 := (hq i hi').2.2.2.1
                refine ⟨(q i).2[j]'(by omega), Array.getElem?_eq_getElem (by omega), ?_⟩
                rw [Array.getElem?_eq_getElem (by omega)] at h1
                rw [← h1, add_add, add_plain]
                rw [show o + (i * 6 + j) = o + (6 * i + j) by omega])
              rw [hpl] at this
              exact this
            · have h1 : widL ((List.range len).map fun i => (q i).1) ≤ 9223372036854775806 := widL_of fun t ht => by
                obtain ⟨i, hi, rfl⟩ := List.mem_map.1 ht
                exact (hq i (List.mem_range.1 hi)).2.1
              simp only [wid, hpl]; omega
            · rw [okT]
              exact ⟨hokf, okTL_of fun t ht => by
                obtain ⟨i, hi, rfl⟩ := List.mem_map.1 ht
                exact (hq i (List.mem_range.1 hi)).2.2.1⟩
open Go.ChangeShapes Go.WideShapes Go.Deep in
theorem rules_open {H : Type} {enc : TypeId × Value → H} {w : World} {held : Bool} {fuel : Nat} {c : Value} {x : DataW H × List MemPlace} (h : DataW.trod enc Tryd.prog w 0 (fun _ => true) held fuel 37 [c] = some x) (hw : ∀ q ∈ x.1.weights Tryd.prog 37, q ≤ reachBytes) :
    ∃ (ts : List RT) (p : Option Addr) (f : Nat), c = .slice p ts.length f ∧ RuV (fun b => b < w.heap.size) w ts c ∧ ts.length ≤ 9223372036854775806 ∧ ∀ t ∈ ts, wid t ≤ 9223372036854775806 ∧ okT t := by
  rcases DataW.trod_slice Tryd.underlying37 h with ⟨e5, -⟩ | ⟨a, len, cap, elems, rest, n', rfl, e5, hy2, hb, hl, hm', hlen, hel, -, -⟩
  · obtain rfl : c = .slice none 0 0 := by simpa using e5
    exact ⟨[], none, 0, rfl, ⟨none, 0, rfl, fun h => absurd rfl h⟩, by simp, by simp⟩
  · obtain rfl : c = .slice (some a) len cap := by simpa using e5
    have hw3 : (elems.length + rest.length) * 72 ≤ reachBytes ∧ ∀ y ∈ elems, ∀ q ∈ y.1.weights Tryd.prog 29, q ≤ reachBytes := by
      rw [hy2] at hw
      unfold DataW.weights at hw
      rw [Tryd.underlying37] at hw
      simp only [List.length_map, bytes58] at hw
      refine ⟨hw _ (List.mem_cons_self ..), fun y hy q hq => hw q (List.mem_cons_of_mem _ (List.mem_append_left _ (weightsAll_mem (List.mem_map_of_mem hy) q hq)))⟩
    have hlb : len ≤ 9223372036854775806 := by
      have := reachBytes_lt
      omega
    have each : ∀ i, i < len → ∃ y : RT × (Int × Array Value), RV (fun b => b < w.heap.size) w y.1 (.agg y.2.2) ∧ wid y.1 ≤ 9223372036854775806 ∧ okT y.1 ∧ ∀ j, j < 7 → w.cell? ((a.add (i * 7)).add j) = (#[.int .i64 y.2.1] ++ y.2.2 : Array Value)[j]? := fun i hi => by
      have h1 := hel i hi
      rw [List.getElem?_eq_getElem (by omega), cells58] at h1
      obtain ⟨cs', h2, h3⟩ := Option.bind_eq_some_iff.1 h1
      obtain ⟨_, hcl, hcell⟩ := World.cells?_some h2
      have hwi := hw3.2 _ (List.getElem_mem (l := elems) (n := i) (by omega))
      obtain ⟨c0, c1, c2, c3, c4, c5, c6, rfl⟩ : ∃ c0 c1 c2 c3 c4 c5 c6, cs' = [c0, c1, c2, c3, c4, c5, c6] := by
        match cs', hcl with
        | [c0, c1, c2, c3, c4, c5, c6], _ => exact ⟨_, _, _, _, _, _, _, rfl⟩
      obtain ⟨xs, n, rfl, hx, hlen', hxl, hf⟩ := DataW.trod_struct Tryd.underlying29 h3
      have f0 := hf 0 _ rfl
      have f1 := hf 1 _ rfl
      have hxl3 : xs.length = 2 := hxl
      match xs, hxl3 with
      | [y0, y1], _ =>
        have g0 : DataW.trod enc Tryd.prog w 0 (fun _ => true) held n 3 [c0] = some y0 := f0
        have g1 : DataW.trod enc Tryd.prog w 0 (fun _ => true) held n 27 [c1, c2, c3, c4, c5, c6] = some y1 := f1
        obtain ⟨kd, e0, -, -⟩ := DataW.trod_int Tryd.underlying3 g0
        obtain rfl : c0 = .int .i64 kd := by simpa using e0
        have hd : (elems[i]).1 = .agg [y0.1, y1.1] := by
          have := (Prod.mk.inj hx).1
          simpa using this
        have hw2 : ∀ q ∈ y1.1.weights Tryd.prog 27, q ≤ reachBytes := fun q hq => by
          refine hwi q ?_
          rw [hd]
          unfold DataW.weights
          rw [Tryd.underlying29]
          exact DataW.weights_mem_each (j := 1) (t := 27) (d := y1.1) rfl rfl q hq
        obtain ⟨t, ht, h4, h5, h6⟩ := tree_open n n (Nat.le_refl _) (d := y1.1) (pl := y1.2) g1 hw2
        refine ⟨(t, (kd, #[c1, c2, c3, c4, c5, c6])), ht, h4, h5, fun j hj => ?_⟩
        rw [hcell j hj]
        rcases (by omega : j = 0 ∨ j = 1 ∨ j = 2 ∨ j = 3 ∨ j = 4 ∨ j = 5 ∨ j = 6) with rfl | rfl | rfl | rfl | rfl | rfl | rfl <;> rfl
    by_cases h0 : len = 0
    · subst h0
      exact ⟨[], some a, cap, rfl, ⟨some a, cap, rfl, fun h => absurd rfl h⟩, by simp, by simp⟩
    · have : Inhabited (RT × (Int × Array Value)) := ⟨(.mk 0 u0 [], (0, #[]))⟩
      obtain ⟨q, hq⟩ := choose_lt each
      have hc0 := (hq 0 (by omega)).2.2.2 0 (by omega)
      have hc1 : w.cell? ((a.add (0 * 7)).add 0) = some (.int .i64 (q 0).2.1) := by rw [hc0]; exact Array.getElem?_append_left (Nat.zero_lt_one)
      have hspot : a.spot = none := by
        have := World.cell?_spot hc1
        simpa [Addr.add] using this
      obtain ⟨b, o, sp⟩ := a
      simp only at hspot
      subst hspot
      have hbl := World.block_lt_of_cell? w _ hc1
      have hbl2 : b < w.heap.size := by simpa [Addr.add] using hbl
      have hpl : ((List.range len).map fun i => (q i).1).length = len := by simp
      refine ⟨(List.range len).map fun i => (q i).1, some ⟨b, o, none⟩, cap, by rw [hpl], ⟨some ⟨b, o, none⟩, cap, by rw [hpl], fun _ => ⟨b, o, rfl, hbl2, fun i hi => ?_⟩⟩, by omega, fun s hs => ?_⟩
      · have hi' : i < len := by rw [hpl] at hi; exact hi
        have e : ((List.range len).map fun i => (q i).1)[i] = (q i).1 := by simp
        rw [e]
        obtain ⟨h1, _, _, h2⟩ := hq i hi'
        obtain ⟨k, u, p, n, c, hk⟩ := h1.form
        have hk' : (q i).2.2 = nodeC k u (.slice p n c) := by injection hk
        refine ⟨(q i).2.1, k, u, p, n, c, hk ▸ h1, fun j y hy => ?_⟩
        have hj : j < 7 := (Array.getElem?_eq_some_iff.1 hy).1
        have h3 := h2 j hj
        rw [hk'] at h3
        have h4 : (#[.int .i64 (q i).2.1] ++ nodeC k u (.slice p n c) : Array Value)[j]? = some y := hy
        rw [← h4, ← h3, add_add, add_plain]
        rw [show o + (i * 7 + j) = o + i * 7 + j by omega]
      · obtain ⟨i, hi, rfl⟩ := List.mem_map.1 hs
        have := hq i (List.mem_range.1 hi)
        exact ⟨this.2.1, this.2.2.1⟩
open Go.ChangeShapes Go.WideShapes in
theorem open_rules {H : Type} {enc : TypeId × Value → H} {w : World} {held : Bool} {v : Value} {d : DataW H} {p : List MemPlace} (hs : v.cells.toList = [v]) (h : DataW.Trod enc Tryd.prog w 0 (fun _ => true) held 37 v d p) (hw : ∀ n ∈ d.weights Tryd.prog 37, n ≤ reachBytes) :
    ∃ (ts : List RT) (p : Option Addr) (f : Nat), v = .slice p ts.length f ∧ RuV (fun b => b < w.heap.size) w ts v ∧ ts.length ≤ 9223372036854775806 ∧ ∀ t ∈ ts, wid t ≤ 9223372036854775806 ∧ okT t := by
  obtain ⟨fuel, hf⟩ := h
  rw [hs] at hf
  exact rules_open hf hw
end Go.Proofs.YthglciccejholaaDoor
end
section
namespace Go.Proofs.YthglciccejholaaDoor.R5
set_option maxRecDepth 100000
open Go.RowKit
theorem okW_okU {u : Nat → Int} (h : okW u) : okU u := fun i hi => by
  have h1 := h i
  have e : (u i).toNat = W (fOf u) i := W_eq (fOf u) i (u i).toNat (by omega) fun k hk => by
    unfold fOf
    rw [show (64 * i + k) / 64 = i by omega, show (64 * i + k) % 64 = k by omega]
  unfold wf
  rw [← e]
  omega
mutual
theorem okT_conv : ∀ (t : RT), _root_.Go.Proofs.YthglciccejholaaDoor.okT t → okT t
  | .mk k u ps, h => by
    rw [_root_.Go.Proofs.YthglciccejholaaDoor.okT] at h
    rw [okT]
    exact ⟨fun _ => okW_okU h.1, okL_conv ps h.2⟩
theorem okL_conv : ∀ (ps : List RT), _root_.Go.Proofs.YthglciccejholaaDoor.okTL ps → okL ps
  | [], _ => by rw [okL]; trivial
  | t :: ts, h => by
    rw [_root_.Go.Proofs.YthglciccejholaaDoor.okTL] at h
    rw [okL]
    exact ⟨okT_conv t h.1, okL_conv ts h.2⟩
end
end Go.Proofs.YthglciccejholaaDoor.R5
end
section
namespace Go.Proofs.YthglciccejholaaDoor
set_option maxRecDepth 100000
open Go.RowKit Go.Shelf
open Go.Maps
set_option maxHeartbeats 32000000 in
theorem rules7_any {D : Nat → Prop} {w : World} {ts : List RT} {q : Option Addr} {f : Nat} (s : ByteArray) (hs : s.size ≤ 9223372036854775806) (hD : ∀ b, D b → b < w.heap.size) (hR : RuV D w ts (.slice q ts.length f)) (hln : ts.length ≤ 9223372036854775806) (hwid : ∀ t ∈ ts, wid t ≤ 9223372036854775806) (hok : ∀ t ∈ ts, okT t) (h0 : 0 < w.heap.size) (hT : R5.Tb w) :
    Calls Tryd.prog 8 #[.slice q ts.length f, .string s] w fun e w' => e = .returned (.bool true) ∧ Below w.heap.size w w' := by
  have hz := (zero_of_info info26r).1
  have hz33 := zero24
  have HDL := Lib.hid (fun (z : World) (hb : Below w.heap.size w z) => (fun b h => Nat.lt_of_lt_of_le (hD b h) hb.size : ∀ b, D b → b < z.heap.size))
  have HRV := Lib.hid (fun (z : World) (hb : Below w.heap.size w z) => hR.mono (D := D) (E := D) (fun b h => h) (fun b h _ => hb.block b (hD b h)))
  have HT0 := Lib.hid (fun (z : World) (hb : Below w.heap.size w z) => (And.intro (by have := hb.size; omega) (hT.mono (hb.block 0 h0)) : 0 < z.heap.size ∧ R5.Tb z))
  have HAL := Lib.hid (fun (z : World) (hb : Below w.heap.size w z) => alive7_any (HT0.out z hb).1 (HT0.out z hb).2)
  have HBIG := Lib.hid (fun (z : World) (hb : Below w.heap.size w z) => rulesbig_any (w := z) 200 (by omega) (HDL.out z hb) (HRV.out z hb) hln hwid)
  have HOF := Lib.hid (fun (z : World) (hb : Below w.heap.size w z) => of_full (w := z) (HDL.out z hb) (HRV.out z hb) hln hwid)
  have HMT := Lib.hid (fun (z : World) (hb : Below w.heap.size w z) (t : RT) (ht : t ∈ ts) (v : Value) (hv : RV D z t v) => R5.matches_any (w := z) s.data.toList (HDL.out z hb) (hwid t ht) (R5.okT_conv t (hok t ht)) (HT0.out z hb).1 (HT0.out z hb).2 hv)
  have HOK := Lib.hid hok
  have HR0 := Lib.hid hR
  have HD0 := Lib.hid hD
  clear hD hR hwid hok h0 hT
  have S0 := Lib.hid (Sep.start w)
  by_cases hlong : 60 < s.size
  · have hI : (60 : Int) < (s.size : Int) := by omega
    go_enter Tryd.func8, Tryd.ntmps8
    go_wp2_with fail
    go_ret
    exact ⟨rfl, S0.out.bel⟩
  have hI : ¬ (60 : Int) < (s.size : Int) := by omega
  obtain ⟨bg, hbg⟩ : ∃ g, (decide (200 < ts.length) || decide (200 < szL ts + 1)) = g := ⟨_, rfl⟩
  rw [hbg] at HBIG
  clear hbg
  go_enter Tryd.func8, Tryd.ntmps8
  go_wp2_with fail
  refine (HBIG.out w S0.out.bel).mono ?_
  rintro _ w1 ⟨rfl, hb⟩
  have S1 := Lib.hid (S0.out.up hb)
  clear hb S0 HBIG
  cases bg with
  | true =>
    go_wp2_with fail
    go_ret
    exact ⟨rfl, S1.out.bel⟩
  | false =>
  have HOF1 := Lib.hid (HOF.out w1 S1.out.bel)
  obtain ⟨E, hE⟩ : ∃ E, refE ts = E := ⟨_, rfl⟩
  obtain ⟨st, hst⟩ : ∃ st, stR ts = st := ⟨_, rfl⟩
  obtain ⟨L, hL⟩ : ∃ L, ssR ts = L := ⟨_, rfl⟩
  rw [hE, hst, hL] at HOF1
  have HE := Lib.hid (And.intro hE (And.intro hst hL))
  clear hE hst hL HOF
  go_wp2_with fail
  refine HOF1.out.mono ?_
  rintro _ w2 ⟨⟨sq, cq, rfl, hsv⟩, hb⟩
  have S2 := Lib.hid (S1.out.up hb)
  have HSV := Lib.hid hsv
  clear hb hsv S1 HOF1
  obtain ⟨b5, hb5⟩ : ∃ b, w2.heap.size = b := ⟨_, rfl⟩
  have S3 := Lib.hid (S2.out.allocAt hb5 (.cells #[.int .i64 st, .slice sq L.length cq] 33))
  have HSV3 := Lib.hid (HSV.out.mono (E := fun b => b < (w2.alloc (.cells #[.int .i64 st, .slice sq L.length cq] 33)).heap.size) (w' := w2.alloc (.cells #[.int .i64 st, .slice sq L.length cq] 33)) (fun b h => by simp; omega) (fun b h _ => heap_alloc_old w2 _ h.2))
  clear HSV S2
  go_upto_region 4 with fail
  refine at_world (fun z => Sep w.heap.size w z [.box b5 (.cells #[.int .i64 st, .slice sq L.length cq] 33)] ∧ SV (fun b => b < z.heap.size) z L (.slice sq L.length cq)) ⟨S3.out, HSV3.out⟩ fun z hz9 => ?_
  have S4 := Lib.hid hz9.1
  have V4 := Lib.hid hz9.2
  clear hz9 S3 HSV3 hb5
  by_cases hE0 : E = 0
  case neg =>
    have hne : (E != 0) = true := by simp [hE0]
    go_wp2_with fail
    refine (HAL.out z S4.out.bel).mono ?_
    rintro _ w9 ⟨rfl, hb⟩
    have S9 := Lib.hid (S4.out.up hb)
    clear hb S4
    go_wp2_with fail
    go_ret
    exact ⟨rfl, S9.out.bel⟩
  have hne : (E != 0) = false := by simp [hE0]
  have HRE : Hid (refE ts = 0) := Lib.hid (by rw [HE.out.1, hE0])
  have HF := Lib.hid (rules_facts HRE.out HOK.out)
  obtain ⟨⟨d, e⟩, hR⟩ : ∃ R, ofD st L = R := ⟨_, rfl⟩
  have HLN := Lib.hid (ofD_len st L)
  rw [hR] at HLN
  have HDE : Hid (e ≠ 0 → e = 3) := Lib.hid (fun h => rules_err HRE.out HOK.out (by rw [HE.out.2.1, HE.out.2.2]; exact hR) h)
  have HDM0 : Hid (e = 0 → ruleF d (bl s) = (wF (Mx ts s.data.toList) ts.length 0, 0)) := Lib.hid (fun h => rules_math HRE.out (by rw [HE.out.2.1, HE.out.2.2, ← h]; exact hR) s.data.toList)
  rw [HE.out.2.1, HE.out.2.2] at HF
  have HDO := Lib.hid (dof_any (w := z) (st := st) (fun b h => h) V4.out HF.out.1 HF.out.2.1 HF.out.2.2.1 (HT0.out z S4.out.bel).1 (HT0.out z S4.out.bel).2)
  rw [hR] at HDO
  have HMM : Hid (∀ t ∈ ts, R5.mtP t s.data.toList = (R5.matB t s.data.toList, 0)) := Lib.hid (fun t ht => mtP_at HRE.out ht (by simp; omega))
  unfold nV at HDO
  have c0 : z.cell? ⟨b5, 0, none⟩ = some (.int .i64 st) := S4.out.boxAt 0
  have c1 : z.cell? ⟨b5, 1, none⟩ = some (.slice sq L.length cq) := S4.out.boxAt 1
  clear hR HE HF V4 HRE hE0
  go_wp2_with fail
  refine (HDO.out).mono ?_
  rintro _ w3 ⟨ds, p, c2, q2, f2, zs, rfl, hdc, hz7, hsp⟩
  simp only at hdc hz7 hsp ⊢
  have HDC := Lib.hid hdc
  have S5 := Lib.hid (S4.out.join hsp)
  obtain ⟨b7, hb7⟩ : ∃ b, w3.heap.size = b := ⟨_, rfl⟩
  have S6 := Lib.hid (S5.out.allocAt hb7 (.cells zero26 48))
  have HBX := Lib.hid S6.out.at.2
  have HZ7 := Lib.hid hz7
  clear hsp hz7 hdc HDO c0 c1 S4
  go_upto_region 7 with (refine wpList_store_row rfl 48 (.tmp 7) (.tmp 33) rfl b7 ds rfl rfl 48 _ HBX.out (by rw [info26, HDC.out.sz]) (by rw [zero26_size, HDC.out.sz]) (by first | exact Array.all_eq_true_iff_forall_mem.2 HDC.out.one | exact Array.all_eq_true.2 (fun i hi => HDC.out.one _ (Array.getElem_mem hi))) ?_)
  refine at_world (fun v => Sep w.heap.size w v (.box b7 (.cells ds 48) :: ((.row (.slice p d.nx.length c2) 39 1 zs.length (zs.map zV) :: .row (.slice q2 d.rl.length f2) 3 1 d.rl.length (zi d.rl) :: (zs.map zI ++ [])) ++ [.box b5 (.cells #[.int .i64 st, .slice sq L.length cq] 33)]))) (S6.out.putRow ds) fun Z hz2 => ?_
  have S7 := Lib.hid hz2
  clear S5 S6 HBX hb7 hz2 hz hz33
  have HWZ : Hid (∀ v : World, Below Z.heap.size Z v → Below w.heap.size w v) := Lib.hid fun v hv => (S7.out.up hv).bel
  have HB7 : Hid (BX Z b7 ds) := Lib.hid S7.out.at.2
  have HDM : Hid (DM (fun b => b < Z.heap.size) Z d p q2 c2 f2) := Lib.hid (dm_of (L := [.box b5 (.cells #[.int .i64 st, .slice sq L.length cq] 33)]) HZ7.out (by have h := S7.out.tl; rw [List.append_nil] at h; exact h) (fun r hr => by have := HLN.out.1 r hr; omega) (by have := HLN.out.2.1; omega) (by have h8 : d.nx.length ≤ 2048 := HLN.out.2.1; have h9 : d.rl.length = d.nx.length := HLN.out.2.2; omega))
  have HZZ := Lib.hid (Below.refl Z.heap.size Z)
  clear S7 HZ7 HLN
  by_cases he : e = 0
  case neg =>
    have heI : (e != 0) = true := by simpa using he
    have he3 := HDE.out he
    subst he3
    go_wp2_with fail
    refine (HAL.out Z (HWZ.out Z HZZ.out)).mono ?_
    rintro _ w9 ⟨rfl, hbb⟩
    have HB9 := Lib.hid (HWZ.out w9 hbb)
    clear hbb
    go_wp2_with fail
    go_ret
    exact ⟨rfl, HB9.out⟩
  subst he
  have HRU := Lib.hid (ruleR_any (w := Z) s HDC.out HDM.out hs)
  rw [HDM0.out rfl] at HRU
  unfold tup at HRU
  simp only at HRU
  obtain ⟨n, hn⟩ : ∃ n, ts.length = n := ⟨_, rfl⟩
  have HLL := Lib.hid hn
  obtain ⟨M, hM⟩ : ∃ M, Mx ts s.data.toList = M := ⟨_, rfl⟩
  have HMX : Hid (∀ j (h : j < ts.length), R5.matB ts[j] s.data.toList = M j) := Lib.hid (fun j h => by rw [← hM, Mx_at h])
  rw [hM] at HRU
  clear hM HDE HDM0 HDM
  rw [hn] at HRU hln
  have HR1 := HR0
  rw [hn] at HR0 ⊢
  clear hn
  go_wp2_with (refine wpList_load_D rfl (.tmp 7) rfl b7 ds rfl HB7.out HDC.out.sz ?_)
  refine (HRU.out).mono ?_
  rintro _ w4 ⟨rfl, hbb⟩
  have HB4 := Lib.hid hbb
  have HWE := Lib.hid (wF_end M n)
  clear hbb HRU HB7 HDC
  go_wp2_with fail
  go_loopw [11, 12] (fun m i v => ∃ (k : Nat) (i0 : Int), k ≤ n ∧ i = .int .i64 i0 ∧ i0 = (k : Int) - 1 ∧ m = .int .i64 (wF M n k) ∧ Hid (Below Z.heap.size Z v)) (fun _ i _ => (intOf i + 1).toNat)
  case atStart => exact ⟨n, (n : Int) - 1, by omega, by go_num, rfl, by rw [HWE.out], HB4⟩
  case round =>
    clear HB4
    obtain ⟨k, i0, hk, rfl, hi0, rfl, HB⟩ := hrel
    by_cases hk0 : k = 0
    · subst hk0
      have hge : decide (i0 ≥ 0) = false := by rw [decide_eq_false_iff_not]; omega
      clear hi0
      obtain ⟨W0, hW0⟩ : ∃ W0, wF M n 0 = W0 := ⟨_, rfl⟩
      rw [hW0]
      have hWW : (W0 == W0) = true := by simp
      go_wp2_with fail
      refine (HAL.out _ (HWZ.out _ HB.out)).mono ?_
      rintro _ w9 ⟨rfl, hbb⟩
      have HB9 := Lib.hid (HB.out.trans (hbb.mono HB.out.size))
      clear hbb HB
      go_wp2_with fail
      go_ret
      exact ⟨rfl, HWZ.out w9 HB9.out⟩
    · obtain ⟨j, rfl⟩ : ∃ j, k = j + 1 := ⟨k - 1, by omega⟩
      have hij : i0 = (j : Int) := by omega
      have hge : decide (i0 ≥ 0) = true := by rw [decide_eq_true_iff]; omega
      have hlt : j < n := by omega
      have hltI : (j : Int) < (n : Int) := by omega
      have hjI : ¬ (j : Int) < 0 := by omega
      have hjl : j < ts.length := by rw [HLL.out]; exact hlt
      obtain ⟨q', f', he', hh⟩ := HR1.out
      obtain ⟨b, o, hq', hDb, hx⟩ := hh (by intro e; rw [e] at hjl; simp at hjl)
      injection he' with e1 e2 e3
      subst e1 e3
      subst hq'
      obtain ⟨kd, k5, u5, p5, n5, c5', hv5, hcell⟩ := hx j hjl
      have hbw := HD0.out b hDb
      have HBW := Lib.hid (HWZ.out _ HB.out)
      have HV5 := Lib.hid (hv5.mono (E := D) (fun b h => h) (fun b h _ => HBW.out.block b (HD0.out b h)))
      have HMC := Lib.hid (HMT.out _ HBW.out ts[j] (List.getElem_mem hjl) _ HV5.out)
      rw [HMM.out ts[j] (List.getElem_mem hjl), HMX.out j hjl, R5.bs_data] at HMC
      simp only at HMC
      unfold nodeC at HMC
      have ce : ∀ i y, (#[.int .i64 kd, .int .i64 k5, .int .u64 (u5 0), .int .u64 (u5 1), .int .u64 (u5 2), .int .u64 (u5 3), .slice p5 n5 c5'] : Array Value)[i]? = some y → wr.cell? ⟨b, o + j * 7 + i, none⟩ = some y := fun i y hy => (cell_same (HBW.out.block b hbw) _).trans (hcell i y hy)
      have d1 : wr.cell? ⟨b, o + j * 7 + 1, none⟩ = some (.int .i64 k5) := ce 1 _ rfl
      have d2 : wr.cell? ⟨b, o + j * 7 + 2, none⟩ = some (.int .u64 (u5 0)) := ce 2 _ rfl
      have d3 : wr.cell? ⟨b, o + j * 7 + 3, none⟩ = some (.int .u64 (u5 1)) := ce 3 _ rfl
      have d4 : wr.cell? ⟨b, o + j * 7 + 4, none⟩ = some (.int .u64 (u5 2)) := ce 4 _ rfl
      have d5 : wr.cell? ⟨b, o + j * 7 + 5, none⟩ = some (.int .u64 (u5 3)) := ce 5 _ rfl
      have d6 : wr.cell? ⟨b, o + j * 7 + 6, none⟩ = some (.slice p5 n5 c5') := ce 6 _ rfl
      obtain ⟨m, hm⟩ : ∃ m, M j = m := ⟨_, rfl⟩
      rw [hm] at HMC
      have HMJ := Lib.hid hm
      obtain ⟨W1, hW1⟩ : ∃ W1, wF M n (j + 1) = W1 := ⟨_, rfl⟩
      have HW1 := Lib.hid hW1
      rw [hW1]
      clear ce hcell hx hh hv5 hm hW1 hi0
      have HIJ := Lib.hid hij
      clear hij
      go_upto_region 14 with fail
      obtain rfl := HIJ.out
      clear hge HIJ
      go_wp2_with fail
      refine (HMC.out).mono ?_
      rintro _ w5 ⟨rfl, hbb⟩
      have HB5 := Lib.hid (HB.out.trans (hbb.mono HB.out.size))
      clear hbb HB HMC d1 d2 d3 d4 d5 d6 HV5
      cases m with
      | true =>
        go_wp2_with fail
        go_roundw
        case rel => exact ⟨j, (j : Int) - 1, by omega, by go_num, rfl, by rw [wF_yes hlt HMJ.out], HB5⟩
        case measure => simp only [intOf]; omega
      | false =>
        go_wp2_with fail
        go_roundw
        case rel => exact ⟨j, (j : Int) - 1, by omega, by go_num, rfl, by rw [wF_no hlt HMJ.out, HW1.out], HB5⟩
        case measure => simp only [intOf]; omega
end Go.Proofs.YthglciccejholaaDoor
end
section
namespace Go.Proofs.YthglciccejholaaDoor
open Go.ChangeShapes Go.WideShapes Go.ChangeAt Go.RowKit R5
abbrev lst : List (String × DataW Unit) := [("math/bits.deBruijn64tab", Rows.laid_math_bits_deBruijn64tab)]
theorem gTab : Tryd.prog.globalNamed "math/bits.deBruijn64tab" = some 0 := by kernel_rfl
theorem gTabT : (Tryd.prog.globals[0]?).map (·.type) = some 177 := by kernel_rfl
theorem cells5t : Tryd.prog.cellsOf 5 = 1 := by kernel_rfl
theorem cells177 : Tryd.prog.cellsOf 177 = 64 := by kernel_rfl
theorem tab_met (os : Os) (args : Array Value) : laidMetH Tryd.prog lst ((World.doorLaid Tryd.prog 14 os).forCall (fun _ _ => 0) ⟨#[], args, []⟩).memory :=
  laidMetH_of_parts3 (fuel := 8) (laidMet_of_run' 8 (by kernel_rfl) (by kernel_rfl)) (by kernel_rfl) (by kernel_rfl)
theorem tab_of {W : World} (h : laidMetH Tryd.prog lst W) : Tb W ∧ 0 < W.heap.size := by
  rw [MakeChecks.laidMetH_plain _ _ _ (by kernel_rfl)] at h
  have hL : laidMet Tryd.prog (("math/bits.deBruijn64tab", Lib.tabData .u8 (Lib.deBruijn64tab.map fun n : Nat => (n : Int))) :: []) W := h
  have hT := Lib.tabIs_of_head gTab gTabT Tryd.underlying177 Tryd.underlying5 cells5t cells177 hL
  have key : Tb W := fun j hj => by
    rw [hT.cell gTab j (by simpa using hj)]
    congr 2
    simp [List.getD, List.getElem?_map, List.getElem?_eq_getElem hj]
  refine ⟨key, ?_⟩
  have h0 := key 0 (by decide)
  exact World.block_lt_of_cell? W ⟨0, 0, none⟩ h0
end Go.Proofs.YthglciccejholaaDoor
end
end
