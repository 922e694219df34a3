/- Package grams. -/
import Derived.Test.YtpmkdpjcpimhkaaProg
import Derived.Test.YtpmkdpjcpimhkaaIn
import Derived.Deep.SlicePairs
import Derived.Deep.Slices
import Derived.Laws.IdiomArrays
import Derived.OpenShut
import Derived.WideBlind
import Derived.Great.BuildSlice
import Derived.WalkKit
import Derived.Maps.OwnSet
import Derived.Maps.OwnOps
import Derived.Maps.Own
import Derived.DeepKeys5
import Derived.BigFrame
import Derived.WalkMore
import Derived.ScopeJumps
import Derived.StillTailTactics
import Derived.Stop.BytesEq
import Derived.WalkLawsBesides
import Derived.WalkSpells
import Derived.Outline
import Derived.Lib.Walk
import Derived.Lib.Hide
import Derived.Lib.Slices
import Derived.Lib.Strings
import Derived.RegionTactic
import Derived.LoopTactic
import Derived.Below
import Derived.IntWalk
import Derived.Deep.QuietTactic
import Derived.BigQuiet
import Derived.Deep.MidRow
import Derived.Maps.AppendAt
import Derived.Laws.Rows
import Derived.Laws.Tables
import Derived.Deep.WholeRow
import Derived.Deep.Cut
import Derived.Deep.CutRange
import Derived.Lib.SliceRun
import Derived.Laws.MakeOwn
import Derived.Deep.RegionLaw
import Derived.Deep.RegionLawGrows
import Derived.Deep.RegionHeld3
import Derived.RegionCalls
import Derived.Deep.RegionWith
import Derived.Deep.Light
import Derived.Laws.CopyOwn
import Derived.Laws.ResultCell
namespace Go.Proofs.Ytpmkdpjcpimhkaa
set_option linter.unusedSimpArgs false
set_option linter.unusedVariables false
set_option maxRecDepth 100000
open Go.RowKit
/- GramsWhy. -/
open Go.Maps
def Cv (g : Gr) (sym : Int) (p : Pr) (k : Nat) (why : List Int) : Prop := p.bd[k]? = some sym → (∀ b, p.bd[k + 1]? = some b → ∀ x ∈ firL g b, x ∈ why) ∧ (p.bd.length = k + 1 → ∀ x ∈ folL g p.hd, x ∈ why)
theorem Cv.app {g : Gr} {sym : Int} {p : Pr} {k : Nat} {why : List Int} (h : Cv g sym p k why) (l : List Int) : Cv g sym p k (why ++ l) := fun hk =>
  ⟨fun b hb x hx => List.mem_append_left _ ((h hk).1 b hb x hx), fun hl x hx => List.mem_append_left _ ((h hk).2 hl x hx)⟩
structure Cov (g : Gr) (sym : Int) (i : Nat) (q : Pr) (k : Nat) (why : List Int) : Prop where
  st : sym = g.st → g.t ∈ why
  past : ∀ j, j < i → ∀ p, g.ps[j]? = some p → ∀ k', Cv g sym p k' why
  now : ∀ k', k' < k → Cv g sym q k' why
  ln : why.length ≤ 1 + 64 * (8 * i + k)
theorem Cov.app {g : Gr} {sym : Int} {i k : Nat} {q : Pr} {why : List Int} (h : Cov g sym i q k why) {l : List Int} (hl : l.length ≤ 64) (hn : Cv g sym q k (why ++ l)) : Cov g sym i q (k + 1) (why ++ l) :=
  ⟨fun e => List.mem_append_left _ (h.st e), fun j hj p hp k' => (h.past j hj p hp k').app l, fun k' hk' => by
    rcases Nat.lt_or_ge k' k with h1 | h1
    · exact (h.now k' h1).app l
    · obtain rfl : k' = k := by omega
      exact hn, by have := h.ln; rw [List.length_append]; omega⟩
theorem Cov.skip {g : Gr} {sym : Int} {i k : Nat} {q : Pr} {why : List Int} (h : Cov g sym i q k why) (hn : q.bd[k]? ≠ some sym) : Cov g sym i q (k + 1) why :=
  ⟨h.st, h.past, fun k' hk' => by
    rcases Nat.lt_or_ge k' k with h1 | h1
    · exact h.now k' h1
    · obtain rfl : k' = k := by omega
      exact fun e => absurd e hn, by have := h.ln; omega⟩
theorem Cov.next {g : Gr} {sym : Int} {i : Nat} {q q' : Pr} {why : List Int} (h : Cov g sym i q q.bd.length why) (hq : g.ps[i]? = some q) (hl : q.bd.length ≤ 8) : Cov g sym (i + 1) q' 0 why :=
  ⟨h.st, fun j hj p hp k' => by
    rcases Nat.lt_or_ge j i with h1 | h1
    · exact h.past j h1 p hp k'
    · obtain rfl : j = i := by omega
      rw [hq] at hp
      obtain rfl := Option.some.inj hp
      rcases Nat.lt_or_ge k' q.bd.length with h2 | h2
      · exact h.now k' h2
      · exact (fun e => by rw [List.getElem?_eq_none h2] at e; cases e), fun k' hk' => by omega, by have := h.ln; omega⟩
theorem Cov.row {g : Gr} {sym : Int} {i : Nat} {q q' : Pr} {why : List Int} (h : Cov g sym i q 0 why) : Cov g sym i q' 0 why := ⟨h.st, h.past, fun k' hk' => by omega, h.ln⟩
theorem cov_end {g : Gr} (hg : GrOk g) {sym : Int} {q : Pr} {why : List Int} (h : Cov g sym g.ps.length q 0 why) {x : Int} (hx : x ∈ folL g sym) : x ∈ why := by
  obtain ⟨ha, h0, h1, hf⟩ := mem_fol.1 hx
  cases hf with
  | fin => exact h.st rfl
  | @nx p _ b _ l1 l2 hp e hb =>
    obtain ⟨j, hj, rfl⟩ := List.getElem_of_mem hp
    have hbr := hg.nm.bd _ hp b (by rw [e]; simp)
    exact (h.past j hj _ (List.getElem?_eq_getElem hj) l1.length (by rw [e]; simp)).1 b (by rw [e]; simp) x ((mem_fir' hg hbr.1 hbr.2).2 hb)
  | @last p _ _ l1 hp e hf =>
    obtain ⟨j, hj, rfl⟩ := List.getElem_of_mem hp
    have hhd := hg.nm.hd _ hp
    have ht := hg.nm.t1
    exact (h.past j hj _ (List.getElem?_eq_getElem hj) l1.length (by rw [e]; simp)).2 (by rw [e]; simp) x ((mem_fol' hg (by omega) hhd.2).2 hf)
theorem why_in1 {g : Gr} (hg : GrOk g) {p : Pr} {sym b : Int} {k : Nat} (hp : p ∈ g.ps) (hk : p.bd[k]? = some sym) (hb : p.bd[k + 1]? = some b) : (firL g b).all (fun x => decide (x ∈ folL g sym)) = true := by
  have hk1 : k < p.bd.length := (List.getElem?_eq_some_iff.1 hk).1
  have hk2 : k + 1 < p.bd.length := (List.getElem?_eq_some_iff.1 hb).1
  have e : p.bd = p.bd.take k ++ sym :: b :: p.bd.drop (k + 2) := by
    have h1 : p.bd.drop k = sym :: b :: p.bd.drop (k + 2) := by
      rw [List.drop_eq_getElem_cons hk1, List.drop_eq_getElem_cons hk2]
      rw [List.getElem?_eq_getElem hk1, Option.some.injEq] at hk
      rw [List.getElem?_eq_getElem hk2, Option.some.injEq] at hb
      rw [hk, hb]
    rw [← h1, List.take_append_drop]
  have h3 := hg.nm.bd p hp sym (by rw [e]; simp)
  refine List.all_eq_true.2 fun x hx => decide_eq_true ((mem_fol' hg h3.1 h3.2).2 (.nx hp e (mem_fir.1 hx).2.2.2))
theorem why_in2 {g : Gr} (hg : GrOk g) {p : Pr} {sym : Int} {k : Nat} (hp : p ∈ g.ps) (hk : p.bd[k]? = some sym) (hl : p.bd.length = k + 1) : (folL g p.hd).all (fun x => decide (x ∈ folL g sym)) = true := by
  have hk1 : k < p.bd.length := (List.getElem?_eq_some_iff.1 hk).1
  have e : p.bd = p.bd.take k ++ [sym] := by
    have h1 : p.bd.drop k = [sym] := by
      rw [List.drop_eq_getElem_cons hk1, List.drop_of_length_le (by omega)]
      rw [List.getElem?_eq_getElem hk1, Option.some.injEq] at hk
      rw [hk]
    rw [← h1, List.take_append_drop]
  have h3 := hg.nm.bd p hp sym (by rw [e]; simp)
  refine List.all_eq_true.2 fun x hx => decide_eq_true ((mem_fol' hg h3.1 h3.2).2 (.last hp e (mem_fol.1 hx).2.2.2))
set_option maxHeartbeats 16000000 in
theorem why_any {D : Nat → Prop} {w : World} {g : Gr} {p : Option Addr} {c : Nat} (sym : Int) (hg : GM D w g.ps p) (hc : g.ps.length ≤ c) :
    Calls Try.prog 10 #[.agg #[.int .i64 g.t, .int .i64 g.s, .int .i64 g.st, .slice p g.ps.length c], .int .i64 sym] w fun e w' => e = .returned (.bool true) ∧ Below w.heap.size w w' := by
  have HG := Lib.hid hg
  obtain ⟨b1, hb1⟩ : ∃ b, w.heap.size = b := ⟨_, rfl⟩
  have HBE := Lib.hid hb1
  have S0 := Lib.hid ((Sep.start w).allocAt hb1 (.cells (gC g p c) 24))
  have HBG := Lib.hid (fun (z : World) (hz : Below w.heap.size w z) => big_any (c := c) (hg.up hz))
  have HFO := Lib.hid (fun (z : World) (s : Int) (hz : Below w.heap.size w z) => follow_any (c := c) s (hg.up hz) hc)
  have HFI := Lib.hid (fun (z : World) (s : Int) (hz : Below w.heap.size w z) => first_any (c := c) s (hg.up hz) hc)
  have HAL := Lib.hid alive_any
  have HOK : Hid (askV g sym 0 = 0 → GrOk g) := Lib.hid (fun h => (ask_ok h).1)
  have hnot : ∀ (x : Bool) (w : World), (Op.unary .not (.bool x)).run Try.prog w = .ok (.bool (!x)) w := fun _ _ => rfl
  unfold gC at S0
  clear hg hc
  go_enter Try.func10, Try.ntmps10
  go_upto_region 1 with fail
  refine at_world (fun v => Sep b1 w v [.box b1 (.cells #[.int .i64 g.t, .int .i64 g.s, .int .i64 g.st, .slice p g.ps.length c] 24 (0, 0))]) (HBE.out ▸ S0.out) fun y1 hy1 => ?_
  have S1 := Lib.hid hy1
  clear hy1 S0 hb1
  have k0 := (S1.out.boxAt 0).trans rfl
  have k1 := (S1.out.boxAt 1).trans rfl
  have k2 := (S1.out.boxAt 2).trans rfl
  have k3 := (S1.out.boxAt 3).trans rfl
  have H1 := Lib.hid (HBG.out y1 (HBE.out ▸ S1.out.bel))
  generalize decide (100000 < tot g.ps) = tb at H1
  go_wp2_with fail
  refine H1.out.mono ?_
  rintro _ y2 ⟨rfl, hb2⟩
  have S2 := Lib.hid (S1.out.up hb2)
  clear hb2 k0 k1 k2 k3 S1 H1 HBG
  cases tb with
  | true =>
    go_wp2_with fail
    go_ret
    exact ⟨rfl, by rw [HBE.out]; exact S2.out.bel⟩
  | false =>
    have k0 := (S2.out.boxAt 0).trans rfl
    have k1 := (S2.out.boxAt 1).trans rfl
    have k2 := (S2.out.boxAt 2).trans rfl
    have k3 := (S2.out.boxAt 3).trans rfl
    have H1 := Lib.hid (HFO.out y2 sym (HBE.out ▸ S2.out.bel))
    obtain ⟨E, hE⟩ : ∃ E, askV g sym 0 = E := ⟨_, rfl⟩
    rw [hE] at H1 HOK
    clear hE
    go_wp2_with fail
    refine H1.out.mono ?_
    rintro _ y3 hn3
    obtain ⟨pA, cA, rfl, hs3⟩ := NumP.row S2.out hn3
    have S3 := Lib.hid hs3
    clear hn3 hs3 k0 k1 k2 k3 S2 H1
    by_cases hE : E = 0
    · subst hE
      have HOKG := Lib.hid (HOK.out rfl)
      obtain ⟨AL, hAL⟩ : ∃ L, folL g sym = L := ⟨_, rfl⟩
      have HALE := Lib.hid hAL
      rw [hAL] at S3 ⊢
      obtain ⟨nA, hnA⟩ : ∃ n, AL.length = n := ⟨_, rfl⟩
      have HNA := Lib.hid hnA
      have S4 := Lib.hid (S3.out.none_ 3 1)
      have HC0 : Hid (Cov g sym 0 ⟨0, [], false⟩ 0 (if sym = g.st then [g.t] else [])) := Lib.hid ⟨fun e => by rw [if_pos e]; simp, fun j hj => by omega, fun k hk => by omega, by split <;> simp⟩
      have hps : g.ps.length ≤ 64 := HOKG.out.nm.n2
      clear hAL S3
      rw [hnA]
      have S5 : Hid (Sep b1 w y3 [rI (.slice none (0 : Nat) 0) [], rI (.slice pA nA cA) AL, .box b1 (.cells #[.int .i64 g.t, .int .i64 g.s, .int .i64 g.st, .slice p g.ps.length c] 24 (0, 0))]) := Lib.hid (by rw [← HNA.out]; exact S4.out)
      clear S4 hnA
      have k0 := (S5.out.tl.tl.boxAt 0).trans rfl
      have k2 := (S5.out.tl.tl.boxAt 2).trans rfl
      have LOOP : Hid (∀ (y4 : World) (pW : Option Addr) (cW nW : Nat) (why : List Int), Hid (Cov g sym 0 ⟨0, [], false⟩ 0 why) → Hid (why.length = nW) → Hid (Sep b1 w y4 [rI (.slice pW nW cW) why, rI (.slice pA nA cA) AL, .box b1 (.cells #[.int .i64 g.t, .int .i64 g.s, .int .i64 g.st, .slice p g.ps.length c] 24 (0, 0))]) → True) := Lib.hid (fun _ _ _ _ _ _ _ _ => trivial)
      clear LOOP
      by_cases hst : sym = g.st
      · rw [if_pos hst] at HC0
        have hstI : (sym == g.st) = true := by simp [hst]
        go_upto_region 8 with fail
        obtain ⟨A0, hA0⟩ : ∃ A : List Int, [] = A := ⟨_, rfl⟩
        rw [hA0] at S5
        generalize Value.slice none 0 0 = v0 at S5 ⊢
        obtain ⟨pn, cn, hvn⟩ := rowF_ S5.out.at
        subst hvn
        have hA0l : A0.length = 0 := by rw [← hA0]; rfl
        have HA0 := Lib.hid hA0
        have HA0L := Lib.hid hA0l
        have hA1 : A0 ++ [g.t] = [g.t] := by rw [← hA0]; rfl
        have HA1 := Lib.hid hA1
        have SA := Lib.hid (S5.out.up ((Below.refl _ _).alloc (Nat.le_refl _) (.cells #[.int .i64 g.t] 3)))
        clear hst hA0 hA0l hA1
        go_wp2_with (at_builtin; refine wpList_app rfl (.tmp 30) (.tmp 33) rfl [] (B := b1) (w0 := w) (A := A0) (l := [g.t]) (D := fun b => b = y3.heap.size) rfl rfl SA.out ?q2 ?q3 ?q4 ?_)
        case q2 => rfl
        case q3 => exact iv_box (D := fun b => b = y3.heap.size) (l := [g.t]) (cs := #[.int .i64 g.t]) (heap_alloc_last y3 _) rfl (fun i hi => by have hi : i < 1 := hi; obtain rfl : i = 0 := (by omega); rfl) 1
        case q4 => rw [HA0L.out]; simp
        intro why0 hw0 p2 c2 w4 hs4
        have hw0 := hw0.out
        rw [HA1.out] at hw0
        have S6 : Hid (Sep b1 w w4 [rI (.slice p2 why0.length c2) why0, rI (.slice pA nA cA) AL, .box b1 (.cells #[.int .i64 g.t, .int .i64 g.s, .int .i64 g.st, .slice p g.ps.length c] 24 (0, 0))]) := Lib.hid hs4
        rw [← hw0] at HC0
        clear hs4 SA k0 k2 S5 hw0
        go_wp2_with fail
        refine at_world (fun v => Sep b1 w v [rI (.slice p2 why0.length c2) why0, rI (.slice pA nA cA) AL, .box b1 (.cells #[.int .i64 g.t, .int .i64 g.s, .int .i64 g.st, .slice p g.ps.length c] 24 (0, 0))]) S6.out fun y5 hy5 => ?_
        have S7 := Lib.hid hy5
        clear hy5 S6
        have HCX := HC0
        go_loopw [7, 8] (fun wv i wr => ∃ (i' : Nat) (why : List Int) (pW : Option Addr) (cW : Nat), i = .int .i64 (i' : Nat) ∧ wv = .slice pW why.length cW ∧ i' ≤ g.ps.length ∧ Hid (Cov g sym i' ⟨0, [], false⟩ 0 why) ∧ Hid (Sep b1 w wr [rI (.slice pW why.length cW) why, rI (.slice pA nA cA) AL, .box b1 (.cells #[.int .i64 g.t, .int .i64 g.s, .int .i64 g.st, .slice p g.ps.length c] 24 (0, 0))])) (fun _ i _ => g.ps.length - (intOf i).toNat)
        case atStart => exact ⟨0, why0, p2, c2, rfl, rfl, by omega, HCX, S7⟩
        case round =>
        clear HCX S7 HC0
        obtain ⟨i, why, pW, cW, rfl, rfl, hi9, HC, HS⟩ := hrel
        obtain ⟨wo, rfl⟩ : ∃ wo : World, wo = wr := ⟨_, rfl⟩
        have k3 := (HS.out.tl.tl.boxAt 3).trans rfl
        by_cases hlt : i < g.ps.length
        · have hltI : (i : Int) < (g.ps.length : Int) := by omega
          have hiI : ¬ (i : Int) < 0 := by omega
          obtain ⟨bb, o, q, d, hpp, hbb, c0, c1, c2, hiv, hbdl, hmem⟩ := (HG.out.up (HBE.out ▸ HS.out.bel)).at hlt
          subst hpp
          obtain ⟨x, hxx⟩ : ∃ x, g.ps[i] = x := ⟨_, rfl⟩
          have hq : g.ps[i]? = some x := by rw [List.getElem?_eq_getElem hlt, hxx]
          rw [hxx] at c0 c1 c2 hiv hbdl hmem
          have hlg := HOKG.out.lg x hmem
          have hne := HOKG.out.ne x hmem
          have HQ := Lib.hid hq
          have HMEM := Lib.hid hmem
          have hl0 : 0 < x.bd.length := List.length_pos_iff.2 hne
          obtain ⟨q', d', he, hh⟩ := hiv
          injection he with e1 e2 e3
          subst e1 e3
          obtain ⟨b9, o9, rfl, hD9, hc9⟩ := hh hne
          have hb9 : b9 < b1 := by rw [← HBE.out]; exact HG.out.lt b9 hD9
          have hcw : ∀ i (h : i < x.bd.length), w.cell? ⟨b9, o9 + i, none⟩ = some (.int .i64 x.bd[i]) := fun i h => (cell_same (HS.out.bel.block b9 hb9) _).symm.trans (hc9 i h)
          have HCW := Lib.hid hcw
          have hDbb : bb < b1 := by
            obtain ⟨b', o', hp', hD', _⟩ := HG.out.pv (by intro e; rw [e] at hlt; simp at hlt)
            injection hp' with e
            injection e with e _
            rw [← HBE.out, e]; exact HG.out.lt b' hD'
          have c0w : w.cell? ⟨bb, o + i * 3, none⟩ = some (.int .i64 x.hd) := (cell_same (HS.out.bel.block bb hDbb) _).symm.trans c0
          have HC0W := Lib.hid c0w
          have HDB := Lib.hid hDbb
          have HC1 := Lib.hid (HC.out.row (q' := x))
          obtain ⟨n, hn⟩ : ∃ n, x.bd.length = n := ⟨_, rfl⟩
          have HN := Lib.hid hn
          rw [hn] at c1 hlg hl0
          clear hh hc9 e2 hcw hne hq hmem hbdl hn hxx hD9 hDbb c0w c0 c2 HC hbb
          go_wp2_with fail
          clear c1 k3
          go_loopw [7, 10] (fun wv k wr => ∃ (k' : Nat) (why : List Int) (pW : Option Addr) (cW : Nat), k = .int .i64 (k' : Nat) ∧ wv = .slice pW why.length cW ∧ k' ≤ n ∧ Hid (Cov g sym i x k' why) ∧ Hid (Sep b1 w wr [rI (.slice pW why.length cW) why, rI (.slice pA nA cA) AL, .box b1 (.cells #[.int .i64 g.t, .int .i64 g.s, .int .i64 g.st, .slice (some ⟨bb, o, none⟩) g.ps.length c] 24 (0, 0))])) (fun _ k _ => n - (intOf k).toNat)
          case atStart => exact ⟨0, why, pW, cW, rfl, rfl, by omega, HC1, HS⟩
          case round =>
          clear HC1 HS
          obtain ⟨k, why, pW, cW, rfl, rfl, hk9, HC, HS⟩ := hrel
          obtain ⟨wi, rfl⟩ : ∃ wo : World, wo = wr := ⟨_, rfl⟩
          have k0 := (HS.out.tl.tl.boxAt 0).trans rfl
          have k1 := (HS.out.tl.tl.boxAt 1).trans rfl
          have k2 := (HS.out.tl.tl.boxAt 2).trans rfl
          have k3 := (HS.out.tl.tl.boxAt 3).trans rfl
          by_cases hlk : k < n
          · have hlkI : (k : Int) < (n : Int) := by omega
            have hkI : ¬ (k : Int) < 0 := by omega
            have hk1 : k < x.bd.length := by rw [HN.out]; exact hlk
            have ca : wi.cell? ⟨b9, o9 + k, none⟩ = _ := cell_up (HCW.out k hk1) HS.out.bel hb9
            have hbk : x.bd[k]? = some x.bd[k] := List.getElem?_eq_getElem hk1
            generalize x.bd[k] = v at ca hbk
            by_cases hv : v = sym
            · have hvI : (v != sym) = false := by simp [hv]
              have HBK : Hid (x.bd[k]? = some sym) := Lib.hid (by rw [hbk, hv])
              clear hbk hv
              by_cases hk2 : k + 1 < n
              · have hk2I : (k : Int) + 1 < (n : Int) := by omega
                have hk2b : k + 1 < x.bd.length := by rw [HN.out]; exact hk2
                have cb : wi.cell? ⟨b9, o9 + (k + 1), none⟩ = _ := cell_up (HCW.out (k + 1) hk2b) HS.out.bel hb9
                have hbk2 : x.bd[k + 1]? = some x.bd[k + 1] := List.getElem?_eq_getElem hk2b
                have hr2 := HOKG.out.nm.bd x HMEM.out x.bd[k + 1] (List.getElem_mem hk2b)
                generalize x.bd[k + 1] = v2 at cb hbk2 hr2
                have HBK2 := Lib.hid hbk2
                have hb9i := blk_lt cb
                have hask : askV g v2 0 = 0 := ask_of HOKG.out hr2.1 hr2.2
                have HASK := Lib.hid hask
                have hk10 : ¬ (k : Int) + 1 < 0 := by omega
                clear hbk2 hr2 hask
                go_upto_region 18 with fail
                clear ca
                have HB1Y := Lib.hid (blk_lt k0)
                have K0 := Lib.hid k0
                have K1 := Lib.hid k1
                have K2 := Lib.hid k2
                have K3 := Lib.hid k3
                have HS0 : Hid ((fun v => Below wi.heap.size wi v) wi.drew) := Lib.hid (below_drewN (Below.refl _ _) 1)
                have HCB := Lib.hid cb
                have HBB9 := Lib.hid hb9i
                refine wp_region_held_drew (S := fun v => Below wi.heap.size wi v) (by kernel_rfl) HS0.out (fun hHeld => ?_)
                refine wpAnyH_take (i := 0) (v := (.agg #[.int .i64 g.t, .int .i64 g.s, .int .i64 g.st, .slice (some ⟨bb, o, none⟩) g.ps.length c])) rfl (by kernel_rfl) (by kernel_rfl) (by kernel_rfl) (fun _ _ _ h => h) (Or.inl ⟨by rfl, by (intro w9 hSw; (try dsimp only at hSw); have c0_ := cell_up K0.out hSw HB1Y.out; have c1_ := cell_up K1.out hSw HB1Y.out; have c2_ := cell_up K2.out hSw HB1Y.out; have c3_ := cell_up K3.out hSw HB1Y.out; go_simp)⟩) hHeld ?_
                (try simp only [Act.put, List.getElem_toArray, List.getElem_cons_zero, List.getElem_cons_succ, List.setIfInBounds_toArray, List.set_cons_zero, List.set_cons_succ])
                refine wpAnyH_take (i := 1) (v := (.slice (some ⟨b9, o9, none⟩) n d)) rfl (by kernel_rfl) (by kernel_rfl) (by kernel_rfl) (fun _ _ _ h => h) (Or.inl ⟨by rfl, by (intro w hSw; (try dsimp only at hSw); go_simp)⟩) hHeld ?_
                (try simp only [Act.put, List.getElem_toArray, List.getElem_cons_zero, List.getElem_cons_succ, List.setIfInBounds_toArray, List.set_cons_zero, List.set_cons_succ])
                refine wpAnyH_take (i := 2) (v := (.int .i64 (k : Nat))) rfl (by kernel_rfl) (by kernel_rfl) (by kernel_rfl) (fun _ _ _ h => h) (Or.inl ⟨by rfl, by (intro w hSw; (try dsimp only at hSw); go_simp)⟩) hHeld ?_
                (try simp only [Act.put, List.getElem_toArray, List.getElem_cons_zero, List.getElem_cons_succ, List.setIfInBounds_toArray, List.set_cons_zero, List.set_cons_succ])
                refine wpAnyH_take (i := 3) (v := (.int .i64 ((k : Nat) + 1))) rfl (by kernel_rfl) (by kernel_rfl) (by kernel_rfl) (fun _ _ _ h => h) (Or.inl ⟨by rfl, by (intro w hSw; (try dsimp only at hSw); go_simp; exact IntWalk.i64_in _ (by omega))⟩) hHeld ?_
                (try simp only [Act.put, List.getElem_toArray, List.getElem_cons_zero, List.getElem_cons_succ, List.setIfInBounds_toArray, List.set_cons_zero, List.set_cons_succ])
                refine wpAnyH_take (i := 4) (v := (.pointer (some ⟨b9, o9 + (k + 1), none⟩))) rfl (by kernel_rfl) (by kernel_rfl) (by kernel_rfl) (fun _ _ _ h => h) (Or.inl ⟨by rfl, by (intro w hSw; (try dsimp only at hSw); go_simp)⟩) hHeld ?_
                (try simp only [Act.put, List.getElem_toArray, List.getElem_cons_zero, List.getElem_cons_succ, List.setIfInBounds_toArray, List.set_cons_zero, List.set_cons_succ])
                refine wpAnyH_take (i := 5) (v := (.int .i64 v2)) rfl (by kernel_rfl) (by kernel_rfl) (by kernel_rfl) (fun _ _ _ h => h) (Or.inl ⟨by rfl, by (intro w9 hSw; (try dsimp only at hSw); have c9_ := cell_up HCB.out hSw HBB9.out; go_simp)⟩) hHeld ?_
                (try simp only [Act.put, List.getElem_toArray, List.getElem_cons_zero, List.getElem_cons_succ, List.setIfInBounds_toArray, List.set_cons_zero, List.set_cons_succ])
                refine wpAnyH_ready (rs := [6]) (by kernel_rfl) (by simp) ?_
                refine AllReadyH.cons rfl (fun K hK => ?_) (AllReadyH.nil)
                rw [if_pos (by rfl)]
                go_wp2_with fail
                refine (HFI.out _ v2 (HBE.out ▸ (Below.trans HS.out.bel (Below.mono hHeld HS.out.sz)))).mono ?_
                rintro _ v9 hn9
                have hb9x := Below.trans hHeld (Below.mono hn9.bel (Below.size hHeld))
                obtain ⟨xp, xc, rfl, hs9⟩ := NumP.row (HS.out.up hHeld) hn9
                have S9 := Lib.hid hs9
                clear hn9 hs9
                refine hK.out _ _ hb9x (fun hHeld2 => ?_)
                clear hb9x
                clear hHeld hK
                have hHeld := hHeld2
                clear hHeld2
                (try simp only [Act.put, List.getElem_toArray, List.getElem_cons_zero, List.getElem_cons_succ, List.setIfInBounds_toArray, List.set_cons_zero, List.set_cons_succ])
                refine wpAnyH_take (i := 7) (v := (.tuple #[.slice xp (firL g v2).length xc, .int .i64 (askV g v2 0)])) rfl (by kernel_rfl) (by kernel_rfl) (by kernel_rfl) (fun _ _ _ h => h) (Or.inl ⟨by rfl, by (intro w hSw; (try dsimp only at hSw); go_simp)⟩) hHeld ?_
                (try simp only [Act.put, List.getElem_toArray, List.getElem_cons_zero, List.getElem_cons_succ, List.setIfInBounds_toArray, List.set_cons_zero, List.set_cons_succ])
                refine wpAnyH_take (i := 8) (v := (.slice xp (firL g v2).length xc)) rfl (by kernel_rfl) (by kernel_rfl) (by kernel_rfl) (fun _ _ _ h => h) (Or.inl ⟨by rfl, by (intro w hSw; (try dsimp only at hSw); go_simp)⟩) hHeld ?_
                (try simp only [Act.put, List.getElem_toArray, List.getElem_cons_zero, List.getElem_cons_succ, List.setIfInBounds_toArray, List.set_cons_zero, List.set_cons_succ])
                refine wpAnyH_take (i := 9) (v := (.int .i64 (askV g v2 0))) rfl (by kernel_rfl) (by kernel_rfl) (by kernel_rfl) (fun _ _ _ h => h) (Or.inl ⟨by rfl, by (intro w hSw; (try dsimp only at hSw); go_simp)⟩) hHeld ?_
                (try simp only [Act.put, List.getElem_toArray, List.getElem_cons_zero, List.getElem_cons_succ, List.setIfInBounds_toArray, List.set_cons_zero, List.set_cons_succ])
                refine wpAnyH_take (i := 10) (v := (.slice xp (firL g v2).length xc)) rfl (by kernel_rfl) (by kernel_rfl) (by kernel_rfl) (fun _ _ _ h => h) (Or.inl ⟨by rfl, by (intro w hSw; (try dsimp only at hSw); go_simp)⟩) hHeld ?_
                (try simp only [Act.put, List.getElem_toArray, List.getElem_cons_zero, List.getElem_cons_succ, List.setIfInBounds_toArray, List.set_cons_zero, List.set_cons_succ])
                refine wpAnyH_take (i := 11) (v := (.int .i64 (askV g v2 0))) rfl (by kernel_rfl) (by kernel_rfl) (by kernel_rfl) (fun _ _ _ h => h) (Or.inl ⟨by rfl, by (intro w hSw; (try dsimp only at hSw); go_simp)⟩) hHeld ?_
                (try simp only [Act.put, List.getElem_toArray, List.getElem_cons_zero, List.getElem_cons_succ, List.setIfInBounds_toArray, List.set_cons_zero, List.set_cons_succ])
                refine wpAnyH_done (by kernel_rfl) ?_ _
                have HNL : Hid (Cov g sym i x (k + 1) (why ++ firL g v2)) := Lib.hid (HC.out.app (fir_len g v2) (fun _ => ⟨fun b hb x hx => by
                  rw [HBK2.out, Option.some.injEq] at hb
                  subst hb
                  exact List.mem_append_right _ hx, fun hl => by have := HN.out; omega⟩))
                have HWI := Lib.hid (within_any (a := firL g v2) (b := AL) (w := v9) (pa := xp) (ca := xc) (pb := pA) (cb := cA) (by have := fir_len g v2; omega) (by rw [← HALE.out]; have := fol_len g sym; omega) (fun b h => h) (fun b h => h) (S9.out.iv (n := (firL g v2).length) (by simp)) (S9.out.iv (n := nA) (by simp)))
                rw [show ((firL g v2).all fun x => decide (x ∈ AL)) = true by rw [← HALE.out]; exact why_in1 HOKG.out HMEM.out HBK.out HBK2.out] at HWI
                rw [HASK.out, HNA.out] at *
                have HWL := Lib.hid HC.out.ln
                clear hHeld k0 k1 k2 k3 cb HS0 K0 K1 K2 K3 HB1Y HS HC
                go_wp2_with fail
                refine HWI.out.mono ?_
                rintro _ y9 ⟨rfl, hb9y⟩
                have SA := Lib.hid ((S9.out.up hb9y).swap)
                clear hb9y S9 HWI
                have hln : why.length + (firL g v2).length ≤ 1000000 := by have := HWL.out; have := fir_len g v2; omega
                go_wp2_with (at_builtin; refine wpList_app rfl (.tmp 83) (.tmp 84) rfl [] rfl rfl SA.out rfl (SA.out.iv (n := (firL g v2).length) (by simp)) hln ?_)
                intro R9 hR9 p2 c2 w4 hs4
                rw [← hR9.out] at HNL
                have S6 : Hid (Sep b1 w w4 ([rI (.slice p2 R9.length c2) R9, rI (.slice pA nA cA) AL, .box b1 (.cells #[.int .i64 g.t, .int .i64 g.s, .int .i64 g.st, .slice (some ⟨bb, o, none⟩) g.ps.length c] 24 (0, 0))])) := Lib.hid (hs4.swap.tl)
                clear hs4 SA hln hR9
                go_wp2_with fail
                go_roundw
                case rel => exact ⟨k + 1, _, p2, c2, by go_num, rfl, by omega, HNL, S6⟩
                case measure => simp [intOf]; omega
              · have hkn : k + 1 = n := by omega
                have hk2I : ¬ (k : Int) + 1 < (n : Int) := by omega
                have c0 : wi.cell? ⟨bb, o + i * 3, none⟩ = _ := cell_up HC0W.out HS.out.bel HDB.out
                have hhd := HOKG.out.nm.hd x HMEM.out
                have hask : askV g x.hd 0 = 0 := ask_of HOKG.out (by have := HOKG.out.nm.t1; omega) hhd.2
                have hin2 := why_in2 HOKG.out HMEM.out HBK.out (by rw [HN.out]; exact hkn.symm)
                have HNLX := fun l (hl : l = folL g x.hd) => HC.out.app (l := l) (by rw [hl]; exact fol_len g x.hd) (fun _ => ⟨(fun b hb => by rw [List.getElem?_eq_none (by rw [HN.out]; omega)] at hb; cases hb), fun _ z hz => List.mem_append_right _ (by rw [hl]; exact hz)⟩)
                have HNL := Lib.hid (HNLX _ rfl)
                have hbbi := blk_lt c0
                generalize x.hd = hd at c0 hask hin2 HNL
                have HASK := Lib.hid hask
                have HIN2 := Lib.hid hin2
                clear hask hin2 hhd HNLX
                go_upto_region 22 with fail
                clear ca
                have HB1Y := Lib.hid (blk_lt k0)
                have K0 := Lib.hid k0
                have K1 := Lib.hid k1
                have K2 := Lib.hid k2
                have K3 := Lib.hid k3
                have HS0 : Hid ((fun v => Below wi.heap.size wi v) wi.drew) := Lib.hid (below_drewN (Below.refl _ _) 1)
                have HC0x := Lib.hid c0
                have HBBX := Lib.hid hbbi
                refine wp_region_held_drew (S := fun v => Below wi.heap.size wi v) (by kernel_rfl) HS0.out (fun hHeld => ?_)
                refine wpAnyH_take (i := 0) (v := (.agg #[.int .i64 g.t, .int .i64 g.s, .int .i64 g.st, .slice (some ⟨bb, o, none⟩) g.ps.length c])) rfl (by kernel_rfl) (by kernel_rfl) (by kernel_rfl) (fun _ _ _ h => h) (Or.inl ⟨by rfl, by (intro w9 hSw; (try dsimp only at hSw); have c0_ := cell_up K0.out hSw HB1Y.out; have c1_ := cell_up K1.out hSw HB1Y.out; have c2_ := cell_up K2.out hSw HB1Y.out; have c3_ := cell_up K3.out hSw HB1Y.out; go_simp)⟩) hHeld ?_
                (try simp only [Act.put, List.getElem_toArray, List.getElem_cons_zero, List.getElem_cons_succ, List.setIfInBounds_toArray, List.set_cons_zero, List.set_cons_succ])
                refine wpAnyH_take (i := 1) (v := (.pointer (some ⟨b1, 3, none⟩))) rfl (by kernel_rfl) (by kernel_rfl) (by kernel_rfl) (fun _ _ _ h => h) (Or.inl ⟨by rfl, by (intro w hSw; (try dsimp only at hSw); go_simp)⟩) hHeld ?_
                (try simp only [Act.put, List.getElem_toArray, List.getElem_cons_zero, List.getElem_cons_succ, List.setIfInBounds_toArray, List.set_cons_zero, List.set_cons_succ])
                refine wpAnyH_take (i := 2) (v := (.slice (some ⟨bb, o, none⟩) g.ps.length c)) rfl (by kernel_rfl) (by kernel_rfl) (by kernel_rfl) (fun _ _ _ h => h) (Or.inl ⟨by rfl, by (intro w9 hSw; (try dsimp only at hSw); have c3_ := cell_up K3.out hSw HB1Y.out; go_simp)⟩) hHeld ?_
                (try simp only [Act.put, List.getElem_toArray, List.getElem_cons_zero, List.getElem_cons_succ, List.setIfInBounds_toArray, List.set_cons_zero, List.set_cons_succ])
                refine wpAnyH_take (i := 3) (v := (.int .i64 (i : Nat))) rfl (by kernel_rfl) (by kernel_rfl) (by kernel_rfl) (fun _ _ _ h => h) (Or.inl ⟨by rfl, by (intro w hSw; (try dsimp only at hSw); go_simp)⟩) hHeld ?_
                (try simp only [Act.put, List.getElem_toArray, List.getElem_cons_zero, List.getElem_cons_succ, List.setIfInBounds_toArray, List.set_cons_zero, List.set_cons_succ])
                refine wpAnyH_take (i := 4) (v := (.pointer (some ⟨bb, o + i * 3, none⟩))) rfl (by kernel_rfl) (by kernel_rfl) (by kernel_rfl) (fun _ _ _ h => h) (Or.inl ⟨by rfl, by (intro w hSw; (try dsimp only at hSw); go_simp)⟩) hHeld ?_
                (try simp only [Act.put, List.getElem_toArray, List.getElem_cons_zero, List.getElem_cons_succ, List.setIfInBounds_toArray, List.set_cons_zero, List.set_cons_succ])
                refine wpAnyH_take (i := 5) (v := (.pointer (some ⟨bb, o + i * 3, none⟩))) rfl (by kernel_rfl) (by kernel_rfl) (by kernel_rfl) (fun _ _ _ h => h) (Or.inl ⟨by rfl, by (intro w hSw; (try dsimp only at hSw); go_simp)⟩) hHeld ?_
                (try simp only [Act.put, List.getElem_toArray, List.getElem_cons_zero, List.getElem_cons_succ, List.setIfInBounds_toArray, List.set_cons_zero, List.set_cons_succ])
                refine wpAnyH_take (i := 6) (v := (.int .i64 hd)) rfl (by kernel_rfl) (by kernel_rfl) (by kernel_rfl) (fun _ _ _ h => h) (Or.inl ⟨by rfl, by (intro w9 hSw; (try dsimp only at hSw); have c9_ := cell_up HC0x.out hSw HBBX.out; go_simp)⟩) hHeld ?_
                (try simp only [Act.put, List.getElem_toArray, List.getElem_cons_zero, List.getElem_cons_succ, List.setIfInBounds_toArray, List.set_cons_zero, List.set_cons_succ])
                refine wpAnyH_ready (rs := [7]) (by kernel_rfl) (by simp) ?_
                refine AllReadyH.cons rfl (fun K hK => ?_) (AllReadyH.nil)
                rw [if_pos (by rfl)]
                go_wp2_with fail
                refine (HFO.out _ hd (HBE.out ▸ (Below.trans HS.out.bel (Below.mono hHeld HS.out.sz)))).mono ?_
                rintro _ v9 hn9
                have hb9x := Below.trans hHeld (Below.mono hn9.bel (Below.size hHeld))
                obtain ⟨xp, xc, rfl, hs9⟩ := NumP.row (HS.out.up hHeld) hn9
                have S9 := Lib.hid hs9
                clear hn9 hs9
                refine hK.out _ _ hb9x (fun hHeld2 => ?_)
                clear hb9x
                clear hHeld hK
                have hHeld := hHeld2
                clear hHeld2
                (try simp only [Act.put, List.getElem_toArray, List.getElem_cons_zero, List.getElem_cons_succ, List.setIfInBounds_toArray, List.set_cons_zero, List.set_cons_succ])
                refine wpAnyH_take (i := 8) (v := (.tuple #[.slice xp (folL g hd).length xc, .int .i64 (askV g hd 0)])) rfl (by kernel_rfl) (by kernel_rfl) (by kernel_rfl) (fun _ _ _ h => h) (Or.inl ⟨by rfl, by (intro w hSw; (try dsimp only at hSw); go_simp)⟩) hHeld ?_
                (try simp only [Act.put, List.getElem_toArray, List.getElem_cons_zero, List.getElem_cons_succ, List.setIfInBounds_toArray, List.set_cons_zero, List.set_cons_succ])
                refine wpAnyH_take (i := 9) (v := (.slice xp (folL g hd).length xc)) rfl (by kernel_rfl) (by kernel_rfl) (by kernel_rfl) (fun _ _ _ h => h) (Or.inl ⟨by rfl, by (intro w hSw; (try dsimp only at hSw); go_simp)⟩) hHeld ?_
                (try simp only [Act.put, List.getElem_toArray, List.getElem_cons_zero, List.getElem_cons_succ, List.setIfInBounds_toArray, List.set_cons_zero, List.set_cons_succ])
                refine wpAnyH_take (i := 10) (v := (.int .i64 (askV g hd 0))) rfl (by kernel_rfl) (by kernel_rfl) (by kernel_rfl) (fun _ _ _ h => h) (Or.inl ⟨by rfl, by (intro w hSw; (try dsimp only at hSw); go_simp)⟩) hHeld ?_
                (try simp only [Act.put, List.getElem_toArray, List.getElem_cons_zero, List.getElem_cons_succ, List.setIfInBounds_toArray, List.set_cons_zero, List.set_cons_succ])
                refine wpAnyH_take (i := 11) (v := (.slice xp (folL g hd).length xc)) rfl (by kernel_rfl) (by kernel_rfl) (by kernel_rfl) (fun _ _ _ h => h) (Or.inl ⟨by rfl, by (intro w hSw; (try dsimp only at hSw); go_simp)⟩) hHeld ?_
                (try simp only [Act.put, List.getElem_toArray, List.getElem_cons_zero, List.getElem_cons_succ, List.setIfInBounds_toArray, List.set_cons_zero, List.set_cons_succ])
                refine wpAnyH_take (i := 12) (v := (.int .i64 (askV g hd 0))) rfl (by kernel_rfl) (by kernel_rfl) (by kernel_rfl) (fun _ _ _ h => h) (Or.inl ⟨by rfl, by (intro w hSw; (try dsimp only at hSw); go_simp)⟩) hHeld ?_
                (try simp only [Act.put, List.getElem_toArray, List.getElem_cons_zero, List.getElem_cons_succ, List.setIfInBounds_toArray, List.set_cons_zero, List.set_cons_succ])
                refine wpAnyH_done (by kernel_rfl) ?_ _
                have HWI := Lib.hid (within_any (a := folL g hd) (b := AL) (w := v9) (pa := xp) (ca := xc) (pb := pA) (cb := cA) (by have := fol_len g hd; omega) (by rw [← HALE.out]; have := fol_len g sym; omega) (fun b h => h) (fun b h => h) (S9.out.iv (n := (folL g hd).length) (by simp)) (S9.out.iv (n := nA) (by simp)))
                rw [show ((folL g hd).all fun x => decide (x ∈ AL)) = true by rw [← HALE.out]; exact HIN2.out] at HWI
                rw [HASK.out, HNA.out] at *
                have HWL := Lib.hid HC.out.ln
                clear hHeld k0 k1 k2 k3 c0 HS0 K0 K1 K2 K3 HB1Y HS HC
                go_wp2_with fail
                refine HWI.out.mono ?_
                rintro _ y9 ⟨rfl, hb9y⟩
                have SA := Lib.hid ((S9.out.up hb9y).swap)
                clear hb9y S9 HWI
                have hln : why.length + (folL g hd).length ≤ 1000000 := by have := HWL.out; have := fol_len g hd; omega
                go_wp2_with (at_builtin; refine wpList_app rfl (.tmp 105) (.tmp 106) rfl [] rfl rfl SA.out rfl (SA.out.iv (n := (folL g hd).length) (by simp)) hln ?_)
                intro R9 hR9 p2 c2 w4 hs4
                rw [← hR9.out] at HNL
                have S6 : Hid (Sep b1 w w4 ([rI (.slice p2 R9.length c2) R9, rI (.slice pA nA cA) AL, .box b1 (.cells #[.int .i64 g.t, .int .i64 g.s, .int .i64 g.st, .slice (some ⟨bb, o, none⟩) g.ps.length c] 24 (0, 0))])) := Lib.hid (hs4.swap.tl)
                clear hs4 SA hln hR9
                go_wp2_with fail
                go_roundw
                case rel => exact ⟨k + 1, _, p2, c2, by go_num, rfl, by omega, HNL, S6⟩
                case measure => simp [intOf]; omega
            · have hvI : (v != sym) = true := by rw [bne_iff_ne]; exact hv
              have HNL := Lib.hid (HC.out.skip (by rw [hbk]; simpa using hv))
              clear hbk hv HC k0 k1 k2 k3
              go_wp2_with fail
              go_roundw
              case rel => exact ⟨k + 1, why, pW, cW, by go_num, rfl, by omega, HNL, HS⟩
              case measure => simp [intOf]; omega
          · obtain rfl : k = n := by omega
            have hlkI : ¬ (k : Int) < (k : Int) := by omega
            have HNL : Hid (Cov g sym (i + 1) ⟨0, [], false⟩ 0 why) := Lib.hid (Cov.next (q := x) (by rw [HN.out]; exact HC.out) HQ.out (by rw [HN.out]; exact hlg))
            clear hlk HC k0 k1 k2 k3
            go_wp2_with fail
            go_roundw
            case rel => exact ⟨i + 1, why, pW, cW, by go_num, rfl, by omega, HNL, HS⟩
            case measure => simp [intOf]; omega
        · obtain rfl : i = g.ps.length := by omega
          have hltI : ¬ (g.ps.length : Int) < (g.ps.length : Int) := by omega
          have hall : (AL.all fun x => decide (x ∈ why)) = true := List.all_eq_true.2 fun x hx => decide_eq_true (cov_end HOKG.out HC.out (by rw [HALE.out]; exact hx))
          have hwl : why.length ≤ 1000000 := by have := HC.out.ln; omega
          have HWI := Lib.hid (within_any (a := AL) (b := why) (w := wo) (pa := pA) (ca := cA) (pb := pW) (cb := cW) (by rw [← HALE.out]; have := fol_len g sym; omega) (by omega) (fun b h => h) (fun b h => h) (HS.out.iv (n := nA) (by simp)) (HS.out.iv (n := why.length) (by simp)))
          rw [hall, HNA.out] at HWI
          clear hall hlt hwl HC
          go_wp2_with fail
          refine HWI.out.mono ?_
          rintro _ y9 ⟨rfl, hb9y⟩
          have SA := Lib.hid (HS.out.up hb9y).bel
          have SZ := Lib.hid (HS.out.up hb9y).sz
          clear hb9y HWI HS k3
          go_wp2_with fail
          refine (HAL.out _).mono ?_
          rintro _ y4 ⟨rfl, hb4⟩
          have HB := Lib.hid (SA.out.trans (hb4.mono SZ.out))
          clear hb4
          go_wp2_with fail
          go_ret
          exact ⟨rfl, by rw [HBE.out]; exact HB.out⟩
      · rw [if_neg hst] at HC0
        have hstI : (sym == g.st) = false := by simp [hst]
        have S6 : Hid (Sep b1 w y3 [rI (.slice none ([] : List Int).length 0) [], rI (.slice pA nA cA) AL, .box b1 (.cells #[.int .i64 g.t, .int .i64 g.s, .int .i64 g.st, .slice p g.ps.length c] 24 (0, 0))]) := S5
        clear hst k0 S5
        go_wp2_with fail
        clear k2
        refine at_world (fun v => Sep b1 w v [rI (.slice none ([] : List Int).length 0) ([] : List Int), rI (.slice pA nA cA) AL, .box b1 (.cells #[.int .i64 g.t, .int .i64 g.s, .int .i64 g.st, .slice p g.ps.length c] 24 (0, 0))]) S6.out fun y5 hy5 => ?_
        have S7 := Lib.hid hy5
        clear hy5 S6
        have HCX := HC0
        go_loopw [7, 8] (fun wv i wr => ∃ (i' : Nat) (why : List Int) (pW : Option Addr) (cW : Nat), i = .int .i64 (i' : Nat) ∧ wv = .slice pW why.length cW ∧ i' ≤ g.ps.length ∧ Hid (Cov g sym i' ⟨0, [], false⟩ 0 why) ∧ Hid (Sep b1 w wr [rI (.slice pW why.length cW) why, rI (.slice pA nA cA) AL, .box b1 (.cells #[.int .i64 g.t, .int .i64 g.s, .int .i64 g.st, .slice p g.ps.length c] 24 (0, 0))])) (fun _ i _ => g.ps.length - (intOf i).toNat)
        case atStart => exact ⟨0, ([] : List Int), none, 0, rfl, rfl, by omega, HCX, S7⟩
        case round =>
        clear HCX S7 HC0
        obtain ⟨i, why, pW, cW, rfl, rfl, hi9, HC, HS⟩ := hrel
        obtain ⟨wo, rfl⟩ : ∃ wo : World, wo = wr := ⟨_, rfl⟩
        have k3 := (HS.out.tl.tl.boxAt 3).trans rfl
        by_cases hlt : i < g.ps.length
        · have hltI : (i : Int) < (g.ps.length : Int) := by omega
          have hiI : ¬ (i : Int) < 0 := by omega
          obtain ⟨bb, o, q, d, hpp, hbb, c0, c1, c2, hiv, hbdl, hmem⟩ := (HG.out.up (HBE.out ▸ HS.out.bel)).at hlt
          subst hpp
          obtain ⟨x, hxx⟩ : ∃ x, g.ps[i] = x := ⟨_, rfl⟩
          have hq : g.ps[i]? = some x := by rw [List.getElem?_eq_getElem hlt, hxx]
          rw [hxx] at c0 c1 c2 hiv hbdl hmem
          have hlg := HOKG.out.lg x hmem
          have hne := HOKG.out.ne x hmem
          have HQ := Lib.hid hq
          have HMEM := Lib.hid hmem
          have hl0 : 0 < x.bd.length := List.length_pos_iff.2 hne
          obtain ⟨q', d', he, hh⟩ := hiv
          injection he with e1 e2 e3
          subst e1 e3
          obtain ⟨b9, o9, rfl, hD9, hc9⟩ := hh hne
          have hb9 : b9 < b1 := by rw [← HBE.out]; exact HG.out.lt b9 hD9
          have hcw : ∀ i (h : i < x.bd.length), w.cell? ⟨b9, o9 + i, none⟩ = some (.int .i64 x.bd[i]) := fun i h => (cell_same (HS.out.bel.block b9 hb9) _).symm.trans (hc9 i h)
          have HCW := Lib.hid hcw
          have hDbb : bb < b1 := by
            obtain ⟨b', o', hp', hD', _⟩ := HG.out.pv (by intro e; rw [e] at hlt; simp at hlt)
            injection hp' with e
            injection e with e _
            rw [← HBE.out, e]; exact HG.out.lt b' hD'
          have c0w : w.cell? ⟨bb, o + i * 3, none⟩ = some (.int .i64 x.hd) := (cell_same (HS.out.bel.block bb hDbb) _).symm.trans c0
          have HC0W := Lib.hid c0w
          have HDB := Lib.hid hDbb
          have HC1 := Lib.hid (HC.out.row (q' := x))
          obtain ⟨n, hn⟩ : ∃ n, x.bd.length = n := ⟨_, rfl⟩
          have HN := Lib.hid hn
          rw [hn] at c1 hlg hl0
          clear hh hc9 e2 hcw hne hq hmem hbdl hn hxx hD9 hDbb c0w c0 c2 HC hbb
          go_wp2_with fail
          clear c1 k3
          go_loopw [7, 10] (fun wv k wr => ∃ (k' : Nat) (why : List Int) (pW : Option Addr) (cW : Nat), k = .int .i64 (k' : Nat) ∧ wv = .slice pW why.length cW ∧ k' ≤ n ∧ Hid (Cov g sym i x k' why) ∧ Hid (Sep b1 w wr [rI (.slice pW why.length cW) why, rI (.slice pA nA cA) AL, .box b1 (.cells #[.int .i64 g.t, .int .i64 g.s, .int .i64 g.st, .slice (some ⟨bb, o, none⟩) g.ps.length c] 24 (0, 0))])) (fun _ k _ => n - (intOf k).toNat)
          case atStart => exact ⟨0, why, pW, cW, rfl, rfl, by omega, HC1, HS⟩
          case round =>
          clear HC1 HS
          obtain ⟨k, why, pW, cW, rfl, rfl, hk9, HC, HS⟩ := hrel
          obtain ⟨wi, rfl⟩ : ∃ wo : World, wo = wr := ⟨_, rfl⟩
          have k0 := (HS.out.tl.tl.boxAt 0).trans rfl
          have k1 := (HS.out.tl.tl.boxAt 1).trans rfl
          have k2 := (HS.out.tl.tl.boxAt 2).trans rfl
          have k3 := (HS.out.tl.tl.boxAt 3).trans rfl
          by_cases hlk : k < n
          · have hlkI : (k : Int) < (n : Int) := by omega
            have hkI : ¬ (k : Int) < 0 := by omega
            have hk1 : k < x.bd.length := by rw [HN.out]; exact hlk
            have ca : wi.cell? ⟨b9, o9 + k, none⟩ = _ := cell_up (HCW.out k hk1) HS.out.bel hb9
            have hbk : x.bd[k]? = some x.bd[k] := List.getElem?_eq_getElem hk1
            generalize x.bd[k] = v at ca hbk
            by_cases hv : v = sym
            · have hvI : (v != sym) = false := by simp [hv]
              have HBK : Hid (x.bd[k]? = some sym) := Lib.hid (by rw [hbk, hv])
              clear hbk hv
              by_cases hk2 : k + 1 < n
              · have hk2I : (k : Int) + 1 < (n : Int) := by omega
                have hk2b : k + 1 < x.bd.length := by rw [HN.out]; exact hk2
                have cb : wi.cell? ⟨b9, o9 + (k + 1), none⟩ = _ := cell_up (HCW.out (k + 1) hk2b) HS.out.bel hb9
                have hbk2 : x.bd[k + 1]? = some x.bd[k + 1] := List.getElem?_eq_getElem hk2b
                have hr2 := HOKG.out.nm.bd x HMEM.out x.bd[k + 1] (List.getElem_mem hk2b)
                generalize x.bd[k + 1] = v2 at cb hbk2 hr2
                have HBK2 := Lib.hid hbk2
                have hb9i := blk_lt cb
                have hask : askV g v2 0 = 0 := ask_of HOKG.out hr2.1 hr2.2
                have HASK := Lib.hid hask
                have hk10 : ¬ (k : Int) + 1 < 0 := by omega
                clear hbk2 hr2 hask
                go_upto_region 18 with fail
                clear ca
                have HB1Y := Lib.hid (blk_lt k0)
                have K0 := Lib.hid k0
                have K1 := Lib.hid k1
                have K2 := Lib.hid k2
                have K3 := Lib.hid k3
                have HS0 : Hid ((fun v => Below wi.heap.size wi v) wi.drew) := Lib.hid (below_drewN (Below.refl _ _) 1)
                have HCB := Lib.hid cb
                have HBB9 := Lib.hid hb9i
                refine wp_region_held_drew (S := fun v => Below wi.heap.size wi v) (by kernel_rfl) HS0.out (fun hHeld => ?_)
                refine wpAnyH_take (i := 0) (v := (.agg #[.int .i64 g.t, .int .i64 g.s, .int .i64 g.st, .slice (some ⟨bb, o, none⟩) g.ps.length c])) rfl (by kernel_rfl) (by kernel_rfl) (by kernel_rfl) (fun _ _ _ h => h) (Or.inl ⟨by rfl, by (intro w9 hSw; (try dsimp only at hSw); have c0_ := cell_up K0.out hSw HB1Y.out; have c1_ := cell_up K1.out hSw HB1Y.out; have c2_ := cell_up K2.out hSw HB1Y.out; have c3_ := cell_up K3.out hSw HB1Y.out; go_simp)⟩) hHeld ?_
                (try simp only [Act.put, List.getElem_toArray, List.getElem_cons_zero, List.getElem_cons_succ, List.setIfInBounds_toArray, List.set_cons_zero, List.set_cons_succ])
                refine wpAnyH_take (i := 1) (v := (.slice (some ⟨b9, o9, none⟩) n d)) rfl (by kernel_rfl) (by kernel_rfl) (by kernel_rfl) (fun _ _ _ h => h) (Or.inl ⟨by rfl, by (intro w hSw; (try dsimp only at hSw); go_simp)⟩) hHeld ?_
                (try simp only [Act.put, List.getElem_toArray, List.getElem_cons_zero, List.getElem_cons_succ, List.setIfInBounds_toArray, List.set_cons_zero, List.set_cons_succ])
                refine wpAnyH_take (i := 2) (v := (.int .i64 (k : Nat))) rfl (by kernel_rfl) (by kernel_rfl) (by kernel_rfl) (fun _ _ _ h => h) (Or.inl ⟨by rfl, by (intro w hSw; (try dsimp only at hSw); go_simp)⟩) hHeld ?_
                (try simp only [Act.put, List.getElem_toArray, List.getElem_cons_zero, List.getElem_cons_succ, List.setIfInBounds_toArray, List.set_cons_zero, List.set_cons_succ])
                refine wpAnyH_take (i := 3) (v := (.int .i64 ((k : Nat) + 1))) rfl (by kernel_rfl) (by kernel_rfl) (by kernel_rfl) (fun _ _ _ h => h) (Or.inl ⟨by rfl, by (intro w hSw; (try dsimp only at hSw); go_simp; exact IntWalk.i64_in _ (by omega))⟩) hHeld ?_
                (try simp only [Act.put, List.getElem_toArray, List.getElem_cons_zero, List.getElem_cons_succ, List.setIfInBounds_toArray, List.set_cons_zero, List.set_cons_succ])
                refine wpAnyH_take (i := 4) (v := (.pointer (some ⟨b9, o9 + (k + 1), none⟩))) rfl (by kernel_rfl) (by kernel_rfl) (by kernel_rfl) (fun _ _ _ h => h) (Or.inl ⟨by rfl, by (intro w hSw; (try dsimp only at hSw); go_simp)⟩) hHeld ?_
                (try simp only [Act.put, List.getElem_toArray, List.getElem_cons_zero, List.getElem_cons_succ, List.setIfInBounds_toArray, List.set_cons_zero, List.set_cons_succ])
                refine wpAnyH_take (i := 5) (v := (.int .i64 v2)) rfl (by kernel_rfl) (by kernel_rfl) (by kernel_rfl) (fun _ _ _ h => h) (Or.inl ⟨by rfl, by (intro w9 hSw; (try dsimp only at hSw); have c9_ := cell_up HCB.out hSw HBB9.out; go_simp)⟩) hHeld ?_
                (try simp only [Act.put, List.getElem_toArray, List.getElem_cons_zero, List.getElem_cons_succ, List.setIfInBounds_toArray, List.set_cons_zero, List.set_cons_succ])
                refine wpAnyH_ready (rs := [6]) (by kernel_rfl) (by simp) ?_
                refine AllReadyH.cons rfl (fun K hK => ?_) (AllReadyH.nil)
                rw [if_pos (by rfl)]
                go_wp2_with fail
                refine (HFI.out _ v2 (HBE.out ▸ (Below.trans HS.out.bel (Below.mono hHeld HS.out.sz)))).mono ?_
                rintro _ v9 hn9
                have hb9x := Below.trans hHeld (Below.mono hn9.bel (Below.size hHeld))
                obtain ⟨xp, xc, rfl, hs9⟩ := NumP.row (HS.out.up hHeld) hn9
                have S9 := Lib.hid hs9
                clear hn9 hs9
                refine hK.out _ _ hb9x (fun hHeld2 => ?_)
                clear hb9x
                clear hHeld hK
                have hHeld := hHeld2
                clear hHeld2
                (try simp only [Act.put, List.getElem_toArray, List.getElem_cons_zero, List.getElem_cons_succ, List.setIfInBounds_toArray, List.set_cons_zero, List.set_cons_succ])
                refine wpAnyH_take (i := 7) (v := (.tuple #[.slice xp (firL g v2).length xc, .int .i64 (askV g v2 0)])) rfl (by kernel_rfl) (by kernel_rfl) (by kernel_rfl) (fun _ _ _ h => h) (Or.inl ⟨by rfl, by (intro w hSw; (try dsimp only at hSw); go_simp)⟩) hHeld ?_
                (try simp only [Act.put, List.getElem_toArray, List.getElem_cons_zero, List.getElem_cons_succ, List.setIfInBounds_toArray, List.set_cons_zero, List.set_cons_succ])
                refine wpAnyH_take (i := 8) (v := (.slice xp (firL g v2).length xc)) rfl (by kernel_rfl) (by kernel_rfl) (by kernel_rfl) (fun _ _ _ h => h) (Or.inl ⟨by rfl, by (intro w hSw; (try dsimp only at hSw); go_simp)⟩) hHeld ?_
                (try simp only [Act.put, List.getElem_toArray, List.getElem_cons_zero, List.getElem_cons_succ, List.setIfInBounds_toArray, List.set_cons_zero, List.set_cons_succ])
                refine wpAnyH_take (i := 9) (v := (.int .i64 (askV g v2 0))) rfl (by kernel_rfl) (by kernel_rfl) (by kernel_rfl) (fun _ _ _ h => h) (Or.inl ⟨by rfl, by (intro w hSw; (try dsimp only at hSw); go_simp)⟩) hHeld ?_
                (try simp only [Act.put, List.getElem_toArray, List.getElem_cons_zero, List.getElem_cons_succ, List.setIfInBounds_toArray, List.set_cons_zero, List.set_cons_succ])
                refine wpAnyH_take (i := 10) (v := (.slice xp (firL g v2).length xc)) rfl (by kernel_rfl) (by kernel_rfl) (by kernel_rfl) (fun _ _ _ h => h) (Or.inl ⟨by rfl, by (intro w hSw; (try dsimp only at hSw); go_simp)⟩) hHeld ?_
                (try simp only [Act.put, List.getElem_toArray, List.getElem_cons_zero, List.getElem_cons_succ, List.setIfInBounds_toArray, List.set_cons_zero, List.set_cons_succ])
                refine wpAnyH_take (i := 11) (v := (.int .i64 (askV g v2 0))) rfl (by kernel_rfl) (by kernel_rfl) (by kernel_rfl) (fun _ _ _ h => h) (Or.inl ⟨by rfl, by (intro w hSw; (try dsimp only at hSw); go_simp)⟩) hHeld ?_
                (try simp only [Act.put, List.getElem_toArray, List.getElem_cons_zero, List.getElem_cons_succ, List.setIfInBounds_toArray, List.set_cons_zero, List.set_cons_succ])
                refine wpAnyH_done (by kernel_rfl) ?_ _
                have HNL : Hid (Cov g sym i x (k + 1) (why ++ firL g v2)) := Lib.hid (HC.out.app (fir_len g v2) (fun _ => ⟨fun b hb x hx => by
                  rw [HBK2.out, Option.some.injEq] at hb
                  subst hb
                  exact List.mem_append_right _ hx, fun hl => by have := HN.out; omega⟩))
                have HWI := Lib.hid (within_any (a := firL g v2) (b := AL) (w := v9) (pa := xp) (ca := xc) (pb := pA) (cb := cA) (by have := fir_len g v2; omega) (by rw [← HALE.out]; have := fol_len g sym; omega) (fun b h => h) (fun b h => h) (S9.out.iv (n := (firL g v2).length) (by simp)) (S9.out.iv (n := nA) (by simp)))
                rw [show ((firL g v2).all fun x => decide (x ∈ AL)) = true by rw [← HALE.out]; exact why_in1 HOKG.out HMEM.out HBK.out HBK2.out] at HWI
                rw [HASK.out, HNA.out] at *
                have HWL := Lib.hid HC.out.ln
                clear hHeld k0 k1 k2 k3 cb HS0 K0 K1 K2 K3 HB1Y HS HC
                go_wp2_with fail
                refine HWI.out.mono ?_
                rintro _ y9 ⟨rfl, hb9y⟩
                have SA := Lib.hid ((S9.out.up hb9y).swap)
                clear hb9y S9 HWI
                have hln : why.length + (firL g v2).length ≤ 1000000 := by have := HWL.out; have := fir_len g v2; omega
                go_wp2_with (at_builtin; refine wpList_app rfl (.tmp 83) (.tmp 84) rfl [] rfl rfl SA.out rfl (SA.out.iv (n := (firL g v2).length) (by simp)) hln ?_)
                intro R9 hR9 p2 c2 w4 hs4
                rw [← hR9.out] at HNL
                have S6 : Hid (Sep b1 w w4 ([rI (.slice p2 R9.length c2) R9, rI (.slice pA nA cA) AL, .box b1 (.cells #[.int .i64 g.t, .int .i64 g.s, .int .i64 g.st, .slice (some ⟨bb, o, none⟩) g.ps.length c] 24 (0, 0))])) := Lib.hid (hs4.swap.tl)
                clear hs4 SA hln hR9
                go_wp2_with fail
                go_roundw
                case rel => exact ⟨k + 1, _, p2, c2, by go_num, rfl, by omega, HNL, S6⟩
                case measure => simp [intOf]; omega
              · have hkn : k + 1 = n := by omega
                have hk2I : ¬ (k : Int) + 1 < (n : Int) := by omega
                have c0 : wi.cell? ⟨bb, o + i * 3, none⟩ = _ := cell_up HC0W.out HS.out.bel HDB.out
                have hhd := HOKG.out.nm.hd x HMEM.out
                have hask : askV g x.hd 0 = 0 := ask_of HOKG.out (by have := HOKG.out.nm.t1; omega) hhd.2
                have hin2 := why_in2 HOKG.out HMEM.out HBK.out (by rw [HN.out]; exact hkn.symm)
                have HNLX := fun l (hl : l = folL g x.hd) => HC.out.app (l := l) (by rw [hl]; exact fol_len g x.hd) (fun _ => ⟨(fun b hb => by rw [List.getElem?_eq_none (by rw [HN.out]; omega)] at hb; cases hb), fun _ z hz => List.mem_append_right _ (by rw [hl]; exact hz)⟩)
                have HNL := Lib.hid (HNLX _ rfl)
                have hbbi := blk_lt c0
                generalize x.hd = hd at c0 hask hin2 HNL
                have HASK := Lib.hid hask
                have HIN2 := Lib.hid hin2
                clear hask hin2 hhd HNLX
                go_upto_region 22 with fail
                clear ca
                have HB1Y := Lib.hid (blk_lt k0)
                have K0 := Lib.hid k0
                have K1 := Lib.hid k1
                have K2 := Lib.hid k2
                have K3 := Lib.hid k3
                have HS0 : Hid ((fun v => Below wi.heap.size wi v) wi.drew) := Lib.hid (below_drewN (Below.refl _ _) 1)
                have HC0x := Lib.hid c0
                have HBBX := Lib.hid hbbi
                refine wp_region_held_drew (S := fun v => Below wi.heap.size wi v) (by kernel_rfl) HS0.out (fun hHeld => ?_)
                refine wpAnyH_take (i := 0) (v := (.agg #[.int .i64 g.t, .int .i64 g.s, .int .i64 g.st, .slice (some ⟨bb, o, none⟩) g.ps.length c])) rfl (by kernel_rfl) (by kernel_rfl) (by kernel_rfl) (fun _ _ _ h => h) (Or.inl ⟨by rfl, by (intro w9 hSw; (try dsimp only at hSw); have c0_ := cell_up K0.out hSw HB1Y.out; have c1_ := cell_up K1.out hSw HB1Y.out; have c2_ := cell_up K2.out hSw HB1Y.out; have c3_ := cell_up K3.out hSw HB1Y.out; go_simp)⟩) hHeld ?_
                (try simp only [Act.put, List.getElem_toArray, List.getElem_cons_zero, List.getElem_cons_succ, List.setIfInBounds_toArray, List.set_cons_zero, List.set_cons_succ])
                refine wpAnyH_take (i := 1) (v := (.pointer (some ⟨b1, 3, none⟩))) rfl (by kernel_rfl) (by kernel_rfl) (by kernel_rfl) (fun _ _ _ h => h) (Or.inl ⟨by rfl, by (intro w hSw; (try dsimp only at hSw); go_simp)⟩) hHeld ?_
                (try simp only [Act.put, List.getElem_toArray, List.getElem_cons_zero, List.getElem_cons_succ, List.setIfInBounds_toArray, List.set_cons_zero, List.set_cons_succ])
                refine wpAnyH_take (i := 2) (v := (.slice (some ⟨bb, o, none⟩) g.ps.length c)) rfl (by kernel_rfl) (by kernel_rfl) (by kernel_rfl) (fun _ _ _ h => h) (Or.inl ⟨by rfl, by (intro w9 hSw; (try dsimp only at hSw); have c3_ := cell_up K3.out hSw HB1Y.out; go_simp)⟩) hHeld ?_
                (try simp only [Act.put, List.getElem_toArray, List.getElem_cons_zero, List.getElem_cons_succ, List.setIfInBounds_toArray, List.set_cons_zero, List.set_cons_succ])
                refine wpAnyH_take (i := 3) (v := (.int .i64 (i : Nat))) rfl (by kernel_rfl) (by kernel_rfl) (by kernel_rfl) (fun _ _ _ h => h) (Or.inl ⟨by rfl, by (intro w hSw; (try dsimp only at hSw); go_simp)⟩) hHeld ?_
                (try simp only [Act.put, List.getElem_toArray, List.getElem_cons_zero, List.getElem_cons_succ, List.setIfInBounds_toArray, List.set_cons_zero, List.set_cons_succ])
                refine wpAnyH_take (i := 4) (v := (.pointer (some ⟨bb, o + i * 3, none⟩))) rfl (by kernel_rfl) (by kernel_rfl) (by kernel_rfl) (fun _ _ _ h => h) (Or.inl ⟨by rfl, by (intro w hSw; (try dsimp only at hSw); go_simp)⟩) hHeld ?_
                (try simp only [Act.put, List.getElem_toArray, List.getElem_cons_zero, List.getElem_cons_succ, List.setIfInBounds_toArray, List.set_cons_zero, List.set_cons_succ])
                refine wpAnyH_take (i := 5) (v := (.pointer (some ⟨bb, o + i * 3, none⟩))) rfl (by kernel_rfl) (by kernel_rfl) (by kernel_rfl) (fun _ _ _ h => h) (Or.inl ⟨by rfl, by (intro w hSw; (try dsimp only at hSw); go_simp)⟩) hHeld ?_
                (try simp only [Act.put, List.getElem_toArray, List.getElem_cons_zero, List.getElem_cons_succ, List.setIfInBounds_toArray, List.set_cons_zero, List.set_cons_succ])
                refine wpAnyH_take (i := 6) (v := (.int .i64 hd)) rfl (by kernel_rfl) (by kernel_rfl) (by kernel_rfl) (fun _ _ _ h => h) (Or.inl ⟨by rfl, by (intro w9 hSw; (try dsimp only at hSw); have c9_ := cell_up HC0x.out hSw HBBX.out; go_simp)⟩) hHeld ?_
                (try simp only [Act.put, List.getElem_toArray, List.getElem_cons_zero, List.getElem_cons_succ, List.setIfInBounds_toArray, List.set_cons_zero, List.set_cons_succ])
                refine wpAnyH_ready (rs := [7]) (by kernel_rfl) (by simp) ?_
                refine AllReadyH.cons rfl (fun K hK => ?_) (AllReadyH.nil)
                rw [if_pos (by rfl)]
                go_wp2_with fail
                refine (HFO.out _ hd (HBE.out ▸ (Below.trans HS.out.bel (Below.mono hHeld HS.out.sz)))).mono ?_
                rintro _ v9 hn9
                have hb9x := Below.trans hHeld (Below.mono hn9.bel (Below.size hHeld))
                obtain ⟨xp, xc, rfl, hs9⟩ := NumP.row (HS.out.up hHeld) hn9
                have S9 := Lib.hid hs9
                clear hn9 hs9
                refine hK.out _ _ hb9x (fun hHeld2 => ?_)
                clear hb9x
                clear hHeld hK
                have hHeld := hHeld2
                clear hHeld2
                (try simp only [Act.put, List.getElem_toArray, List.getElem_cons_zero, List.getElem_cons_succ, List.setIfInBounds_toArray, List.set_cons_zero, List.set_cons_succ])
                refine wpAnyH_take (i := 8) (v := (.tuple #[.slice xp (folL g hd).length xc, .int .i64 (askV g hd 0)])) rfl (by kernel_rfl) (by kernel_rfl) (by kernel_rfl) (fun _ _ _ h => h) (Or.inl ⟨by rfl, by (intro w hSw; (try dsimp only at hSw); go_simp)⟩) hHeld ?_
                (try simp only [Act.put, List.getElem_toArray, List.getElem_cons_zero, List.getElem_cons_succ, List.setIfInBounds_toArray, List.set_cons_zero, List.set_cons_succ])
                refine wpAnyH_take (i := 9) (v := (.slice xp (folL g hd).length xc)) rfl (by kernel_rfl) (by kernel_rfl) (by kernel_rfl) (fun _ _ _ h => h) (Or.inl ⟨by rfl, by (intro w hSw; (try dsimp only at hSw); go_simp)⟩) hHeld ?_
                (try simp only [Act.put, List.getElem_toArray, List.getElem_cons_zero, List.getElem_cons_succ, List.setIfInBounds_toArray, List.set_cons_zero, List.set_cons_succ])
                refine wpAnyH_take (i := 10) (v := (.int .i64 (askV g hd 0))) rfl (by kernel_rfl) (by kernel_rfl) (by kernel_rfl) (fun _ _ _ h => h) (Or.inl ⟨by rfl, by (intro w hSw; (try dsimp only at hSw); go_simp)⟩) hHeld ?_
                (try simp only [Act.put, List.getElem_toArray, List.getElem_cons_zero, List.getElem_cons_succ, List.setIfInBounds_toArray, List.set_cons_zero, List.set_cons_succ])
                refine wpAnyH_take (i := 11) (v := (.slice xp (folL g hd).length xc)) rfl (by kernel_rfl) (by kernel_rfl) (by kernel_rfl) (fun _ _ _ h => h) (Or.inl ⟨by rfl, by (intro w hSw; (try dsimp only at hSw); go_simp)⟩) hHeld ?_
                (try simp only [Act.put, List.getElem_toArray, List.getElem_cons_zero, List.getElem_cons_succ, List.setIfInBounds_toArray, List.set_cons_zero, List.set_cons_succ])
                refine wpAnyH_take (i := 12) (v := (.int .i64 (askV g hd 0))) rfl (by kernel_rfl) (by kernel_rfl) (by kernel_rfl) (fun _ _ _ h => h) (Or.inl ⟨by rfl, by (intro w hSw; (try dsimp only at hSw); go_simp)⟩) hHeld ?_
                (try simp only [Act.put, List.getElem_toArray, List.getElem_cons_zero, List.getElem_cons_succ, List.setIfInBounds_toArray, List.set_cons_zero, List.set_cons_succ])
                refine wpAnyH_done (by kernel_rfl) ?_ _
                have HWI := Lib.hid (within_any (a := folL g hd) (b := AL) (w := v9) (pa := xp) (ca := xc) (pb := pA) (cb := cA) (by have := fol_len g hd; omega) (by rw [← HALE.out]; have := fol_len g sym; omega) (fun b h => h) (fun b h => h) (S9.out.iv (n := (folL g hd).length) (by simp)) (S9.out.iv (n := nA) (by simp)))
                rw [show ((folL g hd).all fun x => decide (x ∈ AL)) = true by rw [← HALE.out]; exact HIN2.out] at HWI
                rw [HASK.out, HNA.out] at *
                have HWL := Lib.hid HC.out.ln
                clear hHeld k0 k1 k2 k3 c0 HS0 K0 K1 K2 K3 HB1Y HS HC
                go_wp2_with fail
                refine HWI.out.mono ?_
                rintro _ y9 ⟨rfl, hb9y⟩
                have SA := Lib.hid ((S9.out.up hb9y).swap)
                clear hb9y S9 HWI
                have hln : why.length + (folL g hd).length ≤ 1000000 := by have := HWL.out; have := fol_len g hd; omega
                go_wp2_with (at_builtin; refine wpList_app rfl (.tmp 105) (.tmp 106) rfl [] rfl rfl SA.out rfl (SA.out.iv (n := (folL g hd).length) (by simp)) hln ?_)
                intro R9 hR9 p2 c2 w4 hs4
                rw [← hR9.out] at HNL
                have S6 : Hid (Sep b1 w w4 ([rI (.slice p2 R9.length c2) R9, rI (.slice pA nA cA) AL, .box b1 (.cells #[.int .i64 g.t, .int .i64 g.s, .int .i64 g.st, .slice (some ⟨bb, o, none⟩) g.ps.length c] 24 (0, 0))])) := Lib.hid (hs4.swap.tl)
                clear hs4 SA hln hR9
                go_wp2_with fail
                go_roundw
                case rel => exact ⟨k + 1, _, p2, c2, by go_num, rfl, by omega, HNL, S6⟩
                case measure => simp [intOf]; omega
            · have hvI : (v != sym) = true := by rw [bne_iff_ne]; exact hv
              have HNL := Lib.hid (HC.out.skip (by rw [hbk]; simpa using hv))
              clear hbk hv HC k0 k1 k2 k3
              go_wp2_with fail
              go_roundw
              case rel => exact ⟨k + 1, why, pW, cW, by go_num, rfl, by omega, HNL, HS⟩
              case measure => simp [intOf]; omega
          · obtain rfl : k = n := by omega
            have hlkI : ¬ (k : Int) < (k : Int) := by omega
            have HNL : Hid (Cov g sym (i + 1) ⟨0, [], false⟩ 0 why) := Lib.hid (Cov.next (q := x) (by rw [HN.out]; exact HC.out) HQ.out (by rw [HN.out]; exact hlg))
            clear hlk HC k0 k1 k2 k3
            go_wp2_with fail
            go_roundw
            case rel => exact ⟨i + 1, why, pW, cW, by go_num, rfl, by omega, HNL, HS⟩
            case measure => simp [intOf]; omega
        · obtain rfl : i = g.ps.length := by omega
          have hltI : ¬ (g.ps.length : Int) < (g.ps.length : Int) := by omega
          have hall : (AL.all fun x => decide (x ∈ why)) = true := List.all_eq_true.2 fun x hx => decide_eq_true (cov_end HOKG.out HC.out (by rw [HALE.out]; exact hx))
          have hwl : why.length ≤ 1000000 := by have := HC.out.ln; omega
          have HWI := Lib.hid (within_any (a := AL) (b := why) (w := wo) (pa := pA) (ca := cA) (pb := pW) (cb := cW) (by rw [← HALE.out]; have := fol_len g sym; omega) (by omega) (fun b h => h) (fun b h => h) (HS.out.iv (n := nA) (by simp)) (HS.out.iv (n := why.length) (by simp)))
          rw [hall, HNA.out] at HWI
          clear hall hlt hwl HC
          go_wp2_with fail
          refine HWI.out.mono ?_
          rintro _ y9 ⟨rfl, hb9y⟩
          have SA := Lib.hid (HS.out.up hb9y).bel
          have SZ := Lib.hid (HS.out.up hb9y).sz
          clear hb9y HWI HS k3
          go_wp2_with fail
          refine (HAL.out _).mono ?_
          rintro _ y4 ⟨rfl, hb4⟩
          have HB := Lib.hid (SA.out.trans (hb4.mono SZ.out))
          clear hb4
          go_wp2_with fail
          go_ret
          exact ⟨rfl, by rw [HBE.out]; exact HB.out⟩
    · have hEI : (E != 0) = true := by rw [bne_iff_ne]; exact hE
      have S4 := Lib.hid S3.out.bel
      clear hE S3
      go_wp2_with fail
      refine (HAL.out _).mono ?_
      rintro _ y4 ⟨rfl, hb4⟩
      have HB := Lib.hid (S4.out.trans (hb4.mono (HBE.out ▸ S4.out.size)))
      clear hb4
      go_wp2_with fail
      go_ret
      exact ⟨rfl, by rw [HBE.out]; exact HB.out⟩
end Go.Proofs.Ytpmkdpjcpimhkaa
