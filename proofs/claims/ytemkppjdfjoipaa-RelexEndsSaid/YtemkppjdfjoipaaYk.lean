/- Edit, beside whatever else lies there -/
import Derived.Test.YtemkppjdfjoipaaProg
import Derived.Test.YtemkppjdfjoipaaYa
import Derived.Test.YtemkppjdfjoipaaW39
import Derived.Test.YtemkppjdfjoipaaW40
import Derived.Test.YtemkppjdfjoipaaW43
import Derived.Deep.SlicePairs
import Derived.Deep.Slices
import Derived.Laws.IdiomArrays
import Derived.OpenShut
import Derived.WideBlind
import Derived.Great.BuildSlice
import Derived.WalkKit
import Derived.Maps.OwnSet
import Derived.Maps.OwnOps
import Derived.Maps.Own
import Derived.DeepKeys5
import Derived.BigFrame
import Derived.WalkMore
import Derived.ScopeJumps
import Derived.StillTailTactics
import Derived.Stop.BytesEq
import Derived.WalkLawsBesides
import Derived.WalkSpells
import Derived.Outline
import Derived.Lib.Walk
import Derived.Lib.Hide
import Derived.Lib.Slices
import Derived.Lib.Strings
import Derived.RegionTactic
import Derived.LoopTactic
import Derived.Below
import Derived.IntWalk
import Derived.Deep.QuietTactic
import Derived.BigQuiet
import Derived.Deep.MidRow
import Derived.Maps.AppendAt
import Derived.Laws.Rows
import Derived.Laws.Tables
import Derived.Deep.WholeRow
import Derived.Deep.Cut
import Derived.Deep.CutRange
import Derived.Lib.SliceRun
import Derived.Laws.MakeOwn
import Derived.Deep.RegionLaw
import Derived.Deep.RegionLawGrows
import Derived.Deep.RegionHeld3
import Derived.RegionCalls
import Derived.Deep.RegionWith
import Derived.Deep.Light
import Derived.Laws.CopyOwn
import Derived.Laws.ResultCell
namespace Go.Proofs.Ytemkppjdfjoipaa.I1.X
set_option linter.unusedSimpArgs false
set_option linter.unusedVariables false
set_option maxRecDepth 100000
open Go.RowKit
/- Edit, where nothing is refused. -/
set_option maxHeartbeats 16000000 in
theorem edit_fr {N BB : Nat} {w wa : World} {XF : List It} {b : Nat} {d : Df} {kl : List Int} {s x t : ByteArray} {st en : Nat} (hNB : N ≤ BB) (hBw0 : BB ≤ w.heap.size) (hsep : Sep BB w wa XF) (hsc : ScV N w b d kl s) (hf : Fine d kl s) (hg : Fine d kl t) (hE : Ed.checkZ s.size (st : Nat) (en : Nat) x = 0) (ht : Ed.apS s (st : Nat) (en : Nat) x = t) (he : Ed1 (bl s) (bl t) st en x.size) :
    Calls Try.prog 16 #[.pointer (some ⟨b, 0, none⟩), Ed.ed (st : Nat) (en : Nat) x] wa (EdF BB w XF d kl s t st en (st + x.size)) := by
  have hsz := hf.sz
  have hxz : x.size ≤ 65536 := by have h1 := he.len; have h2 := hg.sz; rw [bl_len, bl_len] at h1; omega
  have HAP : Hid (∀ z, Calls Try.prog 38 #[.string s, .agg #[.int .i64 (st : Nat), .int .i64 (en : Nat), .string x]] z fun r w' => r = .returned (.tuple #[.string t, .int .i64 0]) ∧ Below z.heap.size z w') := Lib.hid fun z => by
    have e := Ed.apply_any s (st : Nat) (en : Nat) x z (by omega) (by omega)
    rw [ht, hE] at e
    exact e
  have HF := Lib.hid hf
  have HG := Lib.hid hg
  have HE := Lib.hid he
  clear hE ht he hf hg
  have hz := zero51
  have hz28 := zero28
  obtain ⟨b3, hb3⟩ : ∃ b, wa.heap.size = b := ⟨_, rfl⟩
  have S0 := hsep.allocAt hb3 (.cells #[.int .i64 (st : Nat), .int .i64 (en : Nat), .string x] 45)
  have S0 := S0.allocAt (b := b3 + 1) (by simp [hb3]) (.cells zR7 51)
  obtain ⟨b5, hb5⟩ : ∃ b, b3 + 1 = b := ⟨_, rfl⟩
  rw [hb5] at S0
  have S0 := Lib.hid S0
  obtain ⟨bs, p1, p2, p3, p4, c1, c2, c3, c4, hs0⟩ := hsc
  have HSC := Lib.hid hs0
  have hNw : N ≤ BB := hNB
  have hNW : N ≤ w.heap.size := hs0.nw
  have hbN := hs0.bn
  have k0 := hs0.k0
  have k1 := hs0.k1
  have HCELL : Hid (∀ z, Below BB w z → ∀ g, g < N → ∀ o v, w.cell? ⟨g, o, none⟩ = some v → z.cell? ⟨g, o, none⟩ = some v) := Lib.hid fun z hz g hg o v h => (cell_same (hz.block g (Nat.lt_of_lt_of_le hg hNw)) _).trans h
  have HC01 := Lib.hid (And.intro k0 k1)
  clear hs0 k0 k1
  unfold Ed.ed
  go_enter Try.func16, Try.ntmps16
  go_upto_region 1 with fail
  refine at_world (fun y => Sep BB w y (.box b5 (.cells zR7 51 (0, 0)) :: .box b3 (.cells #[.int .i64 (st : Nat), .int .i64 (en : Nat), .string x] 45 (0, 0)) :: XF)) S0.out fun y hy => ?_
  have HTH := Lib.hid (there_any (HCELL.out y hy.bel b hbN _ _ HC01.out.1))
  have S1 := Lib.hid hy
  clear hy S0 hb3 hb5
  go_wp2_with fail
  refine HTH.out.mono ?_
  rintro _ y1 ⟨rfl, rfl⟩
  go_upto_region 3 with fail
  have HS0 : Hid ((fun z => Sep BB w z (.box b5 (.cells zR7 51 (0, 0)) :: .box b3 (.cells #[.int .i64 (st : Nat), .int .i64 (en : Nat), .string x] 45 (0, 0)) :: XF)) y1.drew) := Lib.hid S1.out.drew
  refine wp_region_held_drew (S := fun z => Sep BB w z (.box b5 (.cells zR7 51 (0, 0)) :: .box b3 (.cells #[.int .i64 (st : Nat), .int .i64 (en : Nat), .string x] 45 (0, 0)) :: XF)) (by kernel_rfl) HS0.out (fun hHeld => ?_)
  refine wpAnyH_take (i := 0) (v := .pointer (some ⟨b, 0, none⟩)) rfl (by kernel_rfl) (by kernel_rfl) (by kernel_rfl) (fun _ _ _ h => h) (Or.inl ⟨by rfl, by (intro w hSw; (try dsimp only at hSw); go_simp)⟩) hHeld ?_
  (try simp only [Act.put, List.getElem_toArray, List.getElem_cons_zero, List.getElem_cons_succ, List.setIfInBounds_toArray, List.set_cons_zero, List.set_cons_succ])
  refine wpAnyH_take (i := 1) (v := .pointer (some ⟨b, 0, none⟩)) rfl (by kernel_rfl) (by kernel_rfl) (by kernel_rfl) (fun _ _ _ h => h) (Or.inl ⟨by rfl, by (intro w hSw; (try dsimp only at hSw); go_simp)⟩) hHeld ?_
  (try simp only [Act.put, List.getElem_toArray, List.getElem_cons_zero, List.getElem_cons_succ, List.setIfInBounds_toArray, List.set_cons_zero, List.set_cons_succ])
  refine wpAnyH_take (i := 2) (v := .pointer (some ⟨b, 1, none⟩)) rfl (by kernel_rfl) (by kernel_rfl) (by kernel_rfl) (fun _ _ _ h => h) (Or.inl ⟨by rfl, by (intro w hSw; (try dsimp only at hSw); go_simp)⟩) hHeld ?_
  (try simp only [Act.put, List.getElem_toArray, List.getElem_cons_zero, List.getElem_cons_succ, List.setIfInBounds_toArray, List.set_cons_zero, List.set_cons_succ])
  refine wpAnyH_take (i := 3) (v := .string s) rfl (by kernel_rfl) (by kernel_rfl) (by kernel_rfl) (fun _ _ _ h => h) (Or.inl ⟨by rfl, (by intro w9 hSw; (try dsimp only at hSw); have c1 := HCELL.out w9 hSw.bel b hbN _ _ HC01.out.2; go_simp)⟩) hHeld ?_
  (try simp only [Act.put, List.getElem_toArray, List.getElem_cons_zero, List.getElem_cons_succ, List.setIfInBounds_toArray, List.set_cons_zero, List.set_cons_succ])
  refine wpAnyH_take (i := 4) (v := .agg #[.int .i64 (st : Nat), .int .i64 (en : Nat), .string x]) rfl (by kernel_rfl) (by kernel_rfl) (by kernel_rfl) (fun _ _ _ h => h) (Or.inl ⟨by rfl, (by intro w9 hSw; (try dsimp only at hSw); have c0 : w9.cell? ⟨b3, 0, none⟩ = some (.int .i64 (st : Nat)) := hSw.tl.boxAt 0; have c1 : w9.cell? ⟨b3, 1, none⟩ = some (.int .i64 (en : Nat)) := hSw.tl.boxAt 1; have c2 : w9.cell? ⟨b3, 2, none⟩ = some (.string x) := hSw.tl.boxAt 2; go_simp)⟩) hHeld ?_
  (try simp only [Act.put, List.getElem_toArray, List.getElem_cons_zero, List.getElem_cons_succ, List.setIfInBounds_toArray, List.set_cons_zero, List.set_cons_succ])
  refine wpAnyH_ready (rs := [5]) (by kernel_rfl) (by simp) ?_
  refine AllReadyH.cons rfl (fun K hK => ?_) (AllReadyH.nil)
  rw [if_pos (by rfl)]
  go_wp2_with fail
  refine (HAP.out _).mono ?_
  rintro _ y2 ⟨rfl, hb2⟩
  have S2 := Lib.hid (HS0.out.up hb2)
  refine hK.out _ _ S2.out (fun hHeld2 => ?_)
  clear hHeld hK
  have hHeld := hHeld2
  clear hHeld2
  (try simp only [Act.put, List.getElem_toArray, List.getElem_cons_zero, List.getElem_cons_succ, List.setIfInBounds_toArray, List.set_cons_zero, List.set_cons_succ])
  refine wpAnyH_take (i := 6) (v := .tuple #[.string t, .int .i64 0]) rfl (by kernel_rfl) (by kernel_rfl) (by kernel_rfl) (fun _ _ _ h => h) (Or.inl ⟨by rfl, by (intro w hSw; (try dsimp only at hSw); go_simp)⟩) hHeld ?_
  (try simp only [Act.put, List.getElem_toArray, List.getElem_cons_zero, List.getElem_cons_succ, List.setIfInBounds_toArray, List.set_cons_zero, List.set_cons_succ])
  refine wpAnyH_take (i := 7) (v := .string t) rfl (by kernel_rfl) (by kernel_rfl) (by kernel_rfl) (fun _ _ _ h => h) (Or.inl ⟨by rfl, by (intro w hSw; (try dsimp only at hSw); go_simp)⟩) hHeld ?_
  (try simp only [Act.put, List.getElem_toArray, List.getElem_cons_zero, List.getElem_cons_succ, List.setIfInBounds_toArray, List.set_cons_zero, List.set_cons_succ])
  refine wpAnyH_take (i := 8) (v := .int .i64 0) rfl (by kernel_rfl) (by kernel_rfl) (by kernel_rfl) (fun _ _ _ h => h) (Or.inl ⟨by rfl, by (intro w hSw; (try dsimp only at hSw); go_simp)⟩) hHeld ?_
  (try simp only [Act.put, List.getElem_toArray, List.getElem_cons_zero, List.getElem_cons_succ, List.setIfInBounds_toArray, List.set_cons_zero, List.set_cons_succ])
  refine wpAnyH_take (i := 9) (v := .string t) rfl (by kernel_rfl) (by kernel_rfl) (by kernel_rfl) (fun _ _ _ h => h) (Or.inl ⟨by rfl, by (intro w hSw; (try dsimp only at hSw); go_simp)⟩) hHeld ?_
  (try simp only [Act.put, List.getElem_toArray, List.getElem_cons_zero, List.getElem_cons_succ, List.setIfInBounds_toArray, List.set_cons_zero, List.set_cons_succ])
  refine wpAnyH_take (i := 10) (v := .int .i64 0) rfl (by kernel_rfl) (by kernel_rfl) (by kernel_rfl) (fun _ _ _ h => h) (Or.inl ⟨by rfl, by (intro w hSw; (try dsimp only at hSw); go_simp)⟩) hHeld ?_
  (try simp only [Act.put, List.getElem_toArray, List.getElem_cons_zero, List.getElem_cons_succ, List.setIfInBounds_toArray, List.set_cons_zero, List.set_cons_succ])
  refine wpAnyH_done (by kernel_rfl) ?_ _
  clear hHeld hb2 HS0 S1
  have HAG : Hid (Calls Try.prog 39 #[.pointer (some ⟨b, 0, none⟩), .string t, .agg #[.int .i64 (st : Nat), .int .i64 (en : Nat), .string x]] y2 (AgP BB w (.box b5 (.cells zR7 51 (0, 0)) :: .box b3 (.cells #[.int .i64 (st : Nat), .int .i64 (en : Nat), .string x] 45 (0, 0)) :: XF) d kl s t st en (st + x.size))) := Lib.hid (again_any hNw S2.out HSC.out HF.out HG.out HE.out)
  have zz0 : y2.cell? ⟨b3, 0, none⟩ = some (.int .i64 (st : Nat)) := S2.out.tl.boxAt 0
  have zz1 : y2.cell? ⟨b3, 1, none⟩ = some (.int .i64 (en : Nat)) := S2.out.tl.boxAt 1
  have zz2 : y2.cell? ⟨b3, 2, none⟩ = some (.string x) := S2.out.tl.boxAt 2
  go_wp2_with fail
  refine HAG.out.mono ?_
  rintro _ y3 ⟨o1, o2, o3, o4, v1, v2, v3, v4, vs, J, cnt, rfl, hx, hm, hs, hc⟩
  obtain ⟨r1, r2, r3, r4, l1, l2, l3, l4, rfl, rfl, rfl, rfl, hlv⟩ := hx.lv hm hs
  have HLV := Lib.hid hlv
  have HX := Lib.hid (And.intro hx (And.intro hm hc))
  have S3 := hs
  unfold xI at S3
  have hl4 : (scX d kl t).toks.length ≤ l4 := hlv.h4
  have hlo := HSC.out.lv.h4
  have hab := cpre_len (scX d kl s).toks (scX d kl t).toks
  obtain ⟨f1, hf1⟩ : ∃ f, fr o1 (.slice r1 (scL d kl t).length l1) 38 3 (scL d kl t).length (rwL ((scL d kl t).map tR)) = f := ⟨_, rfl⟩
  obtain ⟨f2, hf2⟩ : ∃ f, fr o2 (.slice r2 (scX d kl t).marks.length l2) 36 5 (scX d kl t).marks.length (mkL vs (scX d kl t).marks) = f := ⟨_, rfl⟩
  obtain ⟨f3, hf3⟩ : ∃ f, fr o3 (.slice r3 (scX d kl t).counts.length l3) 3 1 (scX d kl t).counts.length (zi (scX d kl t).counts) = f := ⟨_, rfl⟩
  obtain ⟨f4, hf4⟩ : ∃ f, fr o4 (.slice r4 (scX d kl t).toks.length l4) 40 3 (scX d kl t).toks.length (tkL (scX d kl t).toks) = f := ⟨_, rfl⟩
  rw [hf1, hf2, hf3, hf4] at S3
  have HFF := Lib.hid (And.intro hf1 (And.intro hf2 (And.intro hf3 hf4)))
  have hwt := hlv.t
  have hwo := HSC.out.lv.t
  obtain ⟨ah, hah⟩ : ∃ a, cpre (scX d kl s).toks (scX d kl t).toks = a := ⟨_, rfl⟩
  obtain ⟨be, hbe⟩ : ∃ a, csuf (scX d kl s).toks (scX d kl t).toks = a := ⟨_, rfl⟩
  have hbe2 := hbe
  rw [csuf_eq, hah] at hbe2
  obtain ⟨pa, hpa⟩ : ∃ p, (if c4 = ah then p4 else p4.map (fun a => a.add (ah * 3))) = p := ⟨_, rfl⟩
  obtain ⟨pb, hpb⟩ : ∃ p, (if l4 = ah then r4 else r4.map (fun a => a.add (ah * 3))) = p := ⟨_, rfl⟩
  rw [hah] at hab
  have hwa := wv_drop hwo (k := ah) hab.1 hlo hpa
  have hwb := wv_drop hwt (k := ah) hab.2 hl4 hpb
  have k5 := HSC.out.k5
  obtain ⟨n1, hn1⟩ : ∃ n, (scL d kl t).length = n := ⟨_, rfl⟩
  obtain ⟨n2, hn2⟩ : ∃ n, (scX d kl t).marks.length = n := ⟨_, rfl⟩
  obtain ⟨n3, hn3⟩ : ∃ n, (scX d kl t).counts.length = n := ⟨_, rfl⟩
  obtain ⟨n4, hn4⟩ : ∃ n, (scX d kl t).toks.length = n := ⟨_, rfl⟩
  obtain ⟨lt, hlt⟩ : ∃ n, (scX d kl s).toks.length = n := ⟨_, rfl⟩
  have hL4 := HG.out.lens.l4
  have hL5 := HF.out.lens.l4
  rw [hn4] at hL4 hl4 hwt hwb
  rw [hlt] at hL5 hlo hwo hwa k5
  rw [hlt, hn4] at hab
  have hsl1 := fun w => run_slice26 p4 lt c4 ah hab.1 hlo w hpa
  have hsl2 := fun w => run_slice26 r4 n4 l4 ah hab.2 hl4 w hpb
  have HSL := Lib.hid (And.intro hsl1 hsl2)
  have HB3h : Hid (Below BB w y3) := Lib.hid hs.bel
  have HAH : Hid (∀ z, Below BB w z → Below y3.heap.size y3 z → Calls Try.prog 40 #[.slice p4 lt c4, .slice r4 n4 l4] z fun e w' => e = .returned (.int .i64 (ah : Nat)) ∧ Below z.heap.size z w') := Lib.hid fun z hz1 hz2 => by
    have e := ahead_any (w := z) (D := Lt N) (E := Lt y3.heap.size) (l := (scX d kl s).toks) (l' := (scX d kl t).toks) (p := p4) (p' := r4) (c := c4) (c' := l4) (fun g (hg : g < N) => Nat.lt_of_lt_of_le (Nat.lt_of_lt_of_le hg hNW) hz1.size) (fun g (hg : g < y3.heap.size) => Nat.lt_of_lt_of_le hg hz2.size) (by rw [hlt]; exact hwo.mono (fun g h => h) (fun g (hg : g < N) _ => hz1.block g (Nat.lt_of_lt_of_le hg hNw))) (by rw [hn4]; exact hwt.mono (fun g h => h) (fun g (hg : g < y3.heap.size) _ => hz2.block g hg)) (by omega) (by omega)
    rw [hlt, hn4, hah] at e
    exact e
  have HBE : Hid (∀ z, Below BB w z → Below y3.heap.size y3 z → Calls Try.prog 42 #[.slice pa (lt - ah) (c4 - ah), .slice pb (n4 - ah) (l4 - ah)] z fun e w' => e = .returned (.int .i64 (be : Nat)) ∧ Below z.heap.size z w') := Lib.hid fun z hz1 hz2 => by
    have e := behind_any (w := z) (D := Lt N) (E := Lt y3.heap.size) (l := (scX d kl s).toks.drop ah) (l' := (scX d kl t).toks.drop ah) (p := pa) (p' := pb) (c := c4 - ah) (c' := l4 - ah) (fun g (hg : g < N) => Nat.lt_of_lt_of_le (Nat.lt_of_lt_of_le hg hNW) hz1.size) (fun g (hg : g < y3.heap.size) => Nat.lt_of_lt_of_le hg hz2.size) (by rw [List.length_drop, hlt]; exact hwa.mono (fun g h => h) (fun g (hg : g < N) _ => hz1.block g (Nat.lt_of_lt_of_le hg hNw))) (by rw [List.length_drop, hn4]; exact hwb.mono (fun g h => h) (fun g (hg : g < y3.heap.size) _ => hz2.block g hg)) (by rw [List.length_drop]; omega) (by rw [List.length_drop]; omega)
    rw [List.length_drop, List.length_drop, hlt, hn4, hbe2] at e
    exact e
  have HCP : Hid (∀ (B : Nat) (w0 z : World) (X : List It), y3.heap.size ≤ B → Below y3.heap.size y3 z → Sep B w0 z X → Calls Try.prog 41 #[.agg #[.slice r1 n1 l1, .slice r2 n2 l2, .slice r3 n3 l3, .slice r4 n4 l4]] z (CqP w0 B X (scL d kl t) (scX d kl t))) := Lib.hid fun B w0 z X hB hz hsz => by
    have hl := HG.out.lens
    have q1 : (scL d kl t).length ≤ 1000000 := by have := hl.l1; omega
    have q2 : (scX d kl t).marks.length ≤ 1000000 := by have h1 := hl.l1; have h2 := hl.l2; rw [h2]; omega
    have q3 : (scX d kl t).counts.length ≤ 1000000 := by have h1 := hl.l1; have h2 := hl.l3; rw [h2]; omega
    have q4 : (scX d kl t).toks.length ≤ 1000000000 := Nat.le_trans hl.l4 (by decide)
    have q5 : clen (scX d kl t).marks ≤ 1000000000 := Nat.le_trans hl.lc (by decide)
    have e := copied_any (N := y3.heap.size) (B := B) (w0 := w0) (w := z) (X := X) hB (hlv.up (Nat.le_refl _) hz) (by intro e; have := hl.l2; rw [e] at this; simp at this) hl.pos q1 q2 q3 q4 q5 hsz
    rw [hn1, hn2, hn3, hn4] at e
    refine e.mono ?_
    intro e9 w9 h9
    rw [← hn1, ← hn2, ← hn3, ← hn4] at h9
    exact h9.cq
  have HK5 := Lib.hid k5
  rw [hn1, hn2, hn3, hn4]
  obtain ⟨b9, hb9⟩ : ∃ b, y3.heap.size = b := ⟨_, rfl⟩
  have hb9B : Below y3.heap.size y3 (y3.alloc (.cells #[.slice r1 n1 l1, .slice r2 n2 l2, .slice r3 n3 l3, .slice r4 n4 l4] 28)) := (Below.refl _ _).alloc (Nat.le_refl _) _
  have S4 := Lib.hid (And.intro (S3.allocAt hb9 (.cells #[.slice r1 n1 l1, .slice r2 n2 l2, .slice r3 n3 l3, .slice r4 n4 l4] 28)) hb9B)
  have HNN := Lib.hid (And.intro hn1 (And.intro hn2 (And.intro hn3 (And.intro hn4 (And.intro hlt (And.intro hah hbe))))))
  clear S3 hs hx hm hc hlv hl4 hlo hf1 hf2 hf3 hf4 hwt hwo hwa hwb hpa hpb hbe2 hsl1 hsl2 k5 hn1 hn2 hn3 hn4 hlt hah hbe S2 HAG zz0 zz1 zz2
  go_upto_region 7 with fail
  refine at_world (fun y => Sep BB w y (bxL b9 #[.slice r1 n1 l1, .slice r2 n2 l2, .slice r3 n3 l3, .slice r4 n4 l4] :: f1 :: f2 :: f3 :: f4 :: (J ++ (.box b5 (.cells zR7 51 (0, 0)) :: .box b3 (.cells #[.int .i64 (st : Nat), .int .i64 (en : Nat), .string x] 45 (0, 0)) :: XF))) ∧ Below y3.heap.size y3 y) S4.out fun y4 hy => ?_
  have S5 := Lib.hid hy
  clear hy S4 hb9 hb9B
  have HS7 : Hid ((fun z => Sep BB w z (bxL b9 #[.slice r1 n1 l1, .slice r2 n2 l2, .slice r3 n3 l3, .slice r4 n4 l4] :: f1 :: f2 :: f3 :: f4 :: (J ++ (.box b5 (.cells zR7 51 (0, 0)) :: .box b3 (.cells #[.int .i64 (st : Nat), .int .i64 (en : Nat), .string x] 45 (0, 0)) :: XF))) ∧ Below y3.heap.size y3 z) y4.drew) := Lib.hid ⟨S5.out.1.drew, below_drewN S5.out.2 1⟩
  refine wp_region_held_drew (S := fun z => Sep BB w z (bxL b9 #[.slice r1 n1 l1, .slice r2 n2 l2, .slice r3 n3 l3, .slice r4 n4 l4] :: f1 :: f2 :: f3 :: f4 :: (J ++ (.box b5 (.cells zR7 51 (0, 0)) :: .box b3 (.cells #[.int .i64 (st : Nat), .int .i64 (en : Nat), .string x] 45 (0, 0)) :: XF))) ∧ Below y3.heap.size y3 z) (by kernel_rfl) HS7.out (fun hHeld => ?_)
  refine wpAnyH_take (i := 0) (v := .pointer (some ⟨b, 0, none⟩)) rfl (by kernel_rfl) (by kernel_rfl) (by kernel_rfl) (fun _ _ _ h => h) (Or.inl ⟨by rfl, by (intro w hSw; (try dsimp only at hSw); go_simp)⟩) hHeld ?_
  (try simp only [Act.put, List.getElem_toArray, List.getElem_cons_zero, List.getElem_cons_succ, List.setIfInBounds_toArray, List.set_cons_zero, List.set_cons_succ])
  refine wpAnyH_take (i := 1) (v := .pointer (some ⟨b, 0, none⟩)) rfl (by kernel_rfl) (by kernel_rfl) (by kernel_rfl) (fun _ _ _ h => h) (Or.inl ⟨by rfl, by (intro w hSw; (try dsimp only at hSw); go_simp)⟩) hHeld ?_
  (try simp only [Act.put, List.getElem_toArray, List.getElem_cons_zero, List.getElem_cons_succ, List.setIfInBounds_toArray, List.set_cons_zero, List.set_cons_succ])
  refine wpAnyH_take (i := 2) (v := .pointer (some ⟨b, 2, none⟩)) rfl (by kernel_rfl) (by kernel_rfl) (by kernel_rfl) (fun _ _ _ h => h) (Or.inl ⟨by rfl, by (intro w hSw; (try dsimp only at hSw); go_simp)⟩) hHeld ?_
  (try simp only [Act.put, List.getElem_toArray, List.getElem_cons_zero, List.getElem_cons_succ, List.setIfInBounds_toArray, List.set_cons_zero, List.set_cons_succ])
  refine wpAnyH_take (i := 3) (v := .pointer (some ⟨b, 5, none⟩)) rfl (by kernel_rfl) (by kernel_rfl) (by kernel_rfl) (fun _ _ _ h => h) (Or.inl ⟨by rfl, by (intro w hSw; (try dsimp only at hSw); go_simp)⟩) hHeld ?_
  (try simp only [Act.put, List.getElem_toArray, List.getElem_cons_zero, List.getElem_cons_succ, List.setIfInBounds_toArray, List.set_cons_zero, List.set_cons_succ])
  refine wpAnyH_take (i := 4) (v := .slice p4 lt c4) rfl (by kernel_rfl) (by kernel_rfl) (by kernel_rfl) (fun _ _ _ h => h) (Or.inl ⟨by rfl, (by intro w9 hSw; (try dsimp only at hSw); obtain ⟨hs1, hs2⟩ := hSw; have c1 := HCELL.out w9 hs1.bel b hbN _ _ HK5.out; go_simp)⟩) hHeld ?_
  (try simp only [Act.put, List.getElem_toArray, List.getElem_cons_zero, List.getElem_cons_succ, List.setIfInBounds_toArray, List.set_cons_zero, List.set_cons_succ])
  refine wpAnyH_take (i := 5) (v := .pointer (some ⟨b9, 3, none⟩)) rfl (by kernel_rfl) (by kernel_rfl) (by kernel_rfl) (fun _ _ _ h => h) (Or.inl ⟨by rfl, by (intro w hSw; (try dsimp only at hSw); go_simp)⟩) hHeld ?_
  (try simp only [Act.put, List.getElem_toArray, List.getElem_cons_zero, List.getElem_cons_succ, List.setIfInBounds_toArray, List.set_cons_zero, List.set_cons_succ])
  refine wpAnyH_take (i := 6) (v := .slice r4 n4 l4) rfl (by kernel_rfl) (by kernel_rfl) (by kernel_rfl) (fun _ _ _ h => h) (Or.inl ⟨by rfl, (by intro w9 hSw; (try dsimp only at hSw); obtain ⟨hs1, hs2⟩ := hSw; have c1 : w9.cell? ⟨b9, 3, none⟩ = some (.slice r4 n4 l4) := hs1.boxAt 3; go_simp)⟩) hHeld ?_
  (try simp only [Act.put, List.getElem_toArray, List.getElem_cons_zero, List.getElem_cons_succ, List.setIfInBounds_toArray, List.set_cons_zero, List.set_cons_succ])
  refine wpAnyH_ready (rs := [7]) (by kernel_rfl) (by simp) ?_
  refine AllReadyH.cons rfl (fun K hK => ?_) (AllReadyH.nil)
  rw [if_pos (by rfl)]
  go_wp2_with fail
  refine (HAH.out _ HS7.out.1.bel HS7.out.2).mono ?_
  rintro _ y5 ⟨rfl, hb⟩
  have S6 : Hid (Sep BB w y5 (bxL b9 #[.slice r1 n1 l1, .slice r2 n2 l2, .slice r3 n3 l3, .slice r4 n4 l4] :: f1 :: f2 :: f3 :: f4 :: (J ++ (.box b5 (.cells zR7 51 (0, 0)) :: .box b3 (.cells #[.int .i64 (st : Nat), .int .i64 (en : Nat), .string x] 45 (0, 0)) :: XF))) ∧ Below y3.heap.size y3 y5) := Lib.hid ⟨HS7.out.1.up hb, HS7.out.2.trans (hb.mono HS7.out.2.size)⟩
  refine hK.out _ _ S6.out (fun hHeld2 => ?_)
  clear hHeld hK
  have hHeld := hHeld2
  clear hHeld2
  (try simp only [Act.put, List.getElem_toArray, List.getElem_cons_zero, List.getElem_cons_succ, List.setIfInBounds_toArray, List.set_cons_zero, List.set_cons_succ])
  refine wpAnyH_take (i := 8) (v := .int .i64 (ah : Nat)) rfl (by kernel_rfl) (by kernel_rfl) (by kernel_rfl) (fun _ _ _ h => h) (Or.inl ⟨by rfl, by (intro w hSw; (try dsimp only at hSw); go_simp)⟩) hHeld ?_
  (try simp only [Act.put, List.getElem_toArray, List.getElem_cons_zero, List.getElem_cons_succ, List.setIfInBounds_toArray, List.set_cons_zero, List.set_cons_succ])
  refine wpAnyH_done (by kernel_rfl) ?_ _
  clear hHeld hb HS7 S5 HAH
  go_upto_region 8 with fail
  obtain ⟨B, hB⟩ : ∃ n, y5.heap.size = n := ⟨_, rfl⟩
  have hB3 : y3.heap.size ≤ B := by rw [← hB]; exact S6.out.2.size
  go_cut [12] from 45 to 61 (fun s12 wx => ∃ (b12 : Nat) (q1 q3 q4 : Option Addr) (e1 e3 e4 bT bR : Nat), s12 = .pointer (some ⟨b12, 0, none⟩) ∧ Hid (Sep B y5 wx (.box b12 (.cells #[.slice q1 n1 e1, .slice (some ⟨bT, 0, none⟩) n2 n2, .slice q3 n3 e3, .slice q4 n4 e4, .int .i64 (ah : Nat), .int .i64 (be : Nat), .int .i64 cnt] 51 (0, 0)) :: cpI q1 q3 q4 e1 e3 e4 bT bR (scL d kl t) (scX d kl t) [])))
  case first =>
    have HS8 : Hid ((fun z => Below B y5 z) y5.drew) := Lib.hid (below_drewN (Below.refl _ _) 1)
    refine wp_region_held_drew (S := fun z => Below B y5 z) (by kernel_rfl) HS8.out (fun hHeld => ?_)
    refine wpAnyH_take (i := 0) (v := .agg #[.slice r1 n1 l1, .slice r2 n2 l2, .slice r3 n3 l3, .slice r4 n4 l4]) rfl (by kernel_rfl) (by kernel_rfl) (by kernel_rfl) (fun _ _ _ h => h) (Or.inl ⟨by rfl, (by intro w9 hSw; (try dsimp only at hSw); have hs1 := S6.out.1.up (by rw [hB]; exact hSw); have c0 : w9.cell? ⟨b9, 0, none⟩ = some (.slice r1 n1 l1) := hs1.boxAt 0; have c1 : w9.cell? ⟨b9, 1, none⟩ = some (.slice r2 n2 l2) := hs1.boxAt 1; have c2 : w9.cell? ⟨b9, 2, none⟩ = some (.slice r3 n3 l3) := hs1.boxAt 2; have c3 : w9.cell? ⟨b9, 3, none⟩ = some (.slice r4 n4 l4) := hs1.boxAt 3; go_simp)⟩) hHeld ?_
    (try simp only [Act.put, List.getElem_toArray, List.getElem_cons_zero, List.getElem_cons_succ, List.setIfInBounds_toArray, List.set_cons_zero, List.set_cons_succ])
    refine wpAnyH_take (i := 2) (v := .int .i64 (ah : Nat)) rfl (by kernel_rfl) (by kernel_rfl) (by kernel_rfl) (fun _ _ _ h => h) (Or.inl ⟨by rfl, by (intro w hSw; (try dsimp only at hSw); go_simp)⟩) hHeld ?_
    (try simp only [Act.put, List.getElem_toArray, List.getElem_cons_zero, List.getElem_cons_succ, List.setIfInBounds_toArray, List.set_cons_zero, List.set_cons_succ])
    refine wpAnyH_take (i := 3) (v := .pointer (some ⟨b, 0, none⟩)) rfl (by kernel_rfl) (by kernel_rfl) (by kernel_rfl) (fun _ _ _ h => h) (Or.inl ⟨by rfl, by (intro w hSw; (try dsimp only at hSw); go_simp)⟩) hHeld ?_
    (try simp only [Act.put, List.getElem_toArray, List.getElem_cons_zero, List.getElem_cons_succ, List.setIfInBounds_toArray, List.set_cons_zero, List.set_cons_succ])
    refine wpAnyH_take (i := 4) (v := .pointer (some ⟨b, 0, none⟩)) rfl (by kernel_rfl) (by kernel_rfl) (by kernel_rfl) (fun _ _ _ h => h) (Or.inl ⟨by rfl, by (intro w hSw; (try dsimp only at hSw); go_simp)⟩) hHeld ?_
    (try simp only [Act.put, List.getElem_toArray, List.getElem_cons_zero, List.getElem_cons_succ, List.setIfInBounds_toArray, List.set_cons_zero, List.set_cons_succ])
    refine wpAnyH_take (i := 5) (v := .pointer (some ⟨b, 2, none⟩)) rfl (by kernel_rfl) (by kernel_rfl) (by kernel_rfl) (fun _ _ _ h => h) (Or.inl ⟨by rfl, by (intro w hSw; (try dsimp only at hSw); go_simp)⟩) hHeld ?_
    (try simp only [Act.put, List.getElem_toArray, List.getElem_cons_zero, List.getElem_cons_succ, List.setIfInBounds_toArray, List.set_cons_zero, List.set_cons_succ])
    refine wpAnyH_take (i := 6) (v := .pointer (some ⟨b, 5, none⟩)) rfl (by kernel_rfl) (by kernel_rfl) (by kernel_rfl) (fun _ _ _ h => h) (Or.inl ⟨by rfl, by (intro w hSw; (try dsimp only at hSw); go_simp)⟩) hHeld ?_
    (try simp only [Act.put, List.getElem_toArray, List.getElem_cons_zero, List.getElem_cons_succ, List.setIfInBounds_toArray, List.set_cons_zero, List.set_cons_succ])
    refine wpAnyH_take (i := 7) (v := .slice p4 lt c4) rfl (by kernel_rfl) (by kernel_rfl) (by kernel_rfl) (fun _ _ _ h => h) (Or.inl ⟨by rfl, (by intro w9 hSw; (try dsimp only at hSw); have hs1 := S6.out.1.up (by rw [hB]; exact hSw); have c1 := HCELL.out w9 hs1.bel b hbN _ _ HK5.out; go_simp)⟩) hHeld ?_
    (try simp only [Act.put, List.getElem_toArray, List.getElem_cons_zero, List.getElem_cons_succ, List.setIfInBounds_toArray, List.set_cons_zero, List.set_cons_succ])
    refine wpAnyH_take (i := 8) (v := .int .i64 (ah : Nat)) rfl (by kernel_rfl) (by kernel_rfl) (by kernel_rfl) (fun _ _ _ h => h) (Or.inl ⟨by rfl, by (intro w hSw; (try dsimp only at hSw); go_simp)⟩) hHeld ?_
    (try simp only [Act.put, List.getElem_toArray, List.getElem_cons_zero, List.getElem_cons_succ, List.setIfInBounds_toArray, List.set_cons_zero, List.set_cons_succ])
    refine wpAnyH_take (i := 9) (v := .slice pa (lt - ah) (c4 - ah)) rfl (by kernel_rfl) (by kernel_rfl) (by kernel_rfl) (fun _ _ _ h => h) (Or.inl ⟨by rfl, (by intro w9 hSw; have h9 := HSL.out.1 w9; unfold execOp; simp only [Act.eval, Option.map_some, Option.map_none, List.getElem_toArray, Array.getD, List.size_toArray]; first | (simp [Sem.run_bind, h9, Result.andThen]; done) | (go_simp; done))⟩) hHeld ?_
    (try simp only [Act.put, List.getElem_toArray, List.getElem_cons_zero, List.getElem_cons_succ, List.setIfInBounds_toArray, List.set_cons_zero, List.set_cons_succ])
    refine wpAnyH_take (i := 10) (v := .pointer (some ⟨b9, 3, none⟩)) rfl (by kernel_rfl) (by kernel_rfl) (by kernel_rfl) (fun _ _ _ h => h) (Or.inl ⟨by rfl, by (intro w hSw; (try dsimp only at hSw); go_simp)⟩) hHeld ?_
    (try simp only [Act.put, List.getElem_toArray, List.getElem_cons_zero, List.getElem_cons_succ, List.setIfInBounds_toArray, List.set_cons_zero, List.set_cons_succ])
    refine wpAnyH_take (i := 11) (v := .slice r4 n4 l4) rfl (by kernel_rfl) (by kernel_rfl) (by kernel_rfl) (fun _ _ _ h => h) (Or.inl ⟨by rfl, (by intro w9 hSw; (try dsimp only at hSw); have hs1 := S6.out.1.up (by rw [hB]; exact hSw); have c1 : w9.cell? ⟨b9, 3, none⟩ = some (.slice r4 n4 l4) := hs1.boxAt 3; go_simp)⟩) hHeld ?_
    (try simp only [Act.put, List.getElem_toArray, List.getElem_cons_zero, List.getElem_cons_succ, List.setIfInBounds_toArray, List.set_cons_zero, List.set_cons_succ])
    refine wpAnyH_take (i := 12) (v := .int .i64 (ah : Nat)) rfl (by kernel_rfl) (by kernel_rfl) (by kernel_rfl) (fun _ _ _ h => h) (Or.inl ⟨by rfl, by (intro w hSw; (try dsimp only at hSw); go_simp)⟩) hHeld ?_
    (try simp only [Act.put, List.getElem_toArray, List.getElem_cons_zero, List.getElem_cons_succ, List.setIfInBounds_toArray, List.set_cons_zero, List.set_cons_succ])
    refine wpAnyH_take (i := 13) (v := .slice pb (n4 - ah) (l4 - ah)) rfl (by kernel_rfl) (by kernel_rfl) (by kernel_rfl) (fun _ _ _ h => h) (Or.inl ⟨by rfl, (by intro w9 hSw; have h9 := HSL.out.2 w9; unfold execOp; simp only [Act.eval, Option.map_some, Option.map_none, List.getElem_toArray, Array.getD, List.size_toArray]; first | (simp [Sem.run_bind, h9, Result.andThen]; done) | (go_simp; done))⟩) hHeld ?_
    (try simp only [Act.put, List.getElem_toArray, List.getElem_cons_zero, List.getElem_cons_succ, List.setIfInBounds_toArray, List.set_cons_zero, List.set_cons_succ])
    refine wpAnyH_take (i := 15) (v := .int .i64 cnt) rfl (by kernel_rfl) (by kernel_rfl) (by kernel_rfl) (fun _ _ _ h => h) (Or.inl ⟨by rfl, by (intro w hSw; (try dsimp only at hSw); go_simp)⟩) hHeld ?_
    (try simp only [Act.put, List.getElem_toArray, List.getElem_cons_zero, List.getElem_cons_succ, List.setIfInBounds_toArray, List.set_cons_zero, List.set_cons_succ])
    have HSTA : Hid (Sep B y5 y5.drew []) := Lib.hid (by rw [← hB]; exact (Sep.start y5).drew)
    have hBw : BB ≤ B := by rw [← hB]; exact S6.out.1.sz
    refine wpAnyH_ready (rs := [1, 17]) (by kernel_rfl) (by simp) ?_
    refine AllReadyH.cons rfl (fun K hK => ?_) (AllReadyH.cons rfl (fun K hK => ?_) AllReadyH.nil)
    · rw [if_pos (by rfl)]
      go_wp2_with fail
      refine (HCP.out B y5 _ _ hB3 (S6.out.2.trans ((HSTA.out.bel).mono hB3)) HSTA.out).mono ?_
      rintro _ z_T1 ⟨q1, q3, q4, e1, e3, e4, bT, bR, rfl, hs_T1⟩
      have T1 := Lib.hid hs_T1
      simp only [cpV, HNN.out.1, HNN.out.2.1, HNN.out.2.2.1, HNN.out.2.2.2.1]
      refine hK.out _ _ T1.out.bel (fun hHeld2 => ?_)
      clear hHeld hK
      have hHeld := hHeld2
      clear hHeld2
      (try simp only [Act.put, List.getElem_toArray, List.getElem_cons_zero, List.getElem_cons_succ, List.setIfInBounds_toArray, List.set_cons_zero, List.set_cons_succ])
      clear hs_T1
      refine wpAnyH_ready (rs := [14, 17]) (by kernel_rfl) (by simp) ?_
      refine AllReadyH.cons rfl (fun K hK => ?_) (AllReadyH.cons rfl (fun K hK => ?_) AllReadyH.nil)
      · rw [if_pos (by rfl)]
        go_wp2_with fail
        refine (HBE.out _ (S6.out.1.bel.trans ((T1.out.bel).mono hBw)) (S6.out.2.trans ((T1.out.bel).mono hB3))).mono ?_
        rintro _ z_T2 ⟨rfl, hb⟩
        have T2 := Lib.hid (T1.out.up hb)
        refine hK.out _ _ T2.out.bel (fun hHeld2 => ?_)
        clear hHeld hK
        have hHeld := hHeld2
        clear hHeld2
        (try simp only [Act.put, List.getElem_toArray, List.getElem_cons_zero, List.getElem_cons_succ, List.setIfInBounds_toArray, List.set_cons_zero, List.set_cons_succ])
        clear hb
        refine wpAnyH_take (i := 16) (v := .agg #[.slice q1 n1 e1, .slice (some ⟨bT, 0, none⟩) n2 n2, .slice q3 n3 e3, .slice q4 n4 e4, .int .i64 (ah : Nat), .int .i64 (be : Nat), .int .i64 cnt]) rfl (by kernel_rfl) (by kernel_rfl) (by kernel_rfl) (fun _ _ _ h => h) (Or.inl ⟨by rfl, by (intro w hSw; (try dsimp only at hSw); go_simp)⟩) hHeld ?_
        (try simp only [Act.put, List.getElem_toArray, List.getElem_cons_zero, List.getElem_cons_succ, List.setIfInBounds_toArray, List.set_cons_zero, List.set_cons_succ])
        refine wpAnyH_ready (rs := [17]) (by kernel_rfl) (by simp) ?_
        refine AllReadyH.cons rfl (fun K hK => ?_) (AllReadyH.nil)
        rw [if_pos (by rfl)]
        go_wp2_with fail
        have T3 := Lib.hid (T2.out.alloc (.cells zR7 51))
        refine hK.out _ _ T3.out.bel (fun hHeld2 => ?_)
        clear hHeld hK
        have hHeld := hHeld2
        clear hHeld2
        (try simp only [Act.put, List.getElem_toArray, List.getElem_cons_zero, List.getElem_cons_succ, List.setIfInBounds_toArray, List.set_cons_zero, List.set_cons_succ])
        obtain ⟨b12, hb12⟩ : ∃ b, z_T2.heap.size = b := ⟨_, rfl⟩
        obtain ⟨z_T3, hz_T3⟩ : ∃ y, z_T2.alloc (.cells zR7 51) = y := ⟨_, rfl⟩
        unfold zR7 at hz_T3 T3
        simp only [hb12, hz_T3] at T3 hHeld ⊢
        have T8 := Lib.hid (((((((T3.out.setAt [] 0 (.slice q1 n1 e1)).setAt [] 1 (.slice (some ⟨bT, 0, none⟩) n2 n2)).setAt [] 2 (.slice q3 n3 e3)).setAt [] 3 (.slice q4 n4 e4)).setAt [] 4 (.int .i64 (ah : Nat))).setAt [] 5 (.int .i64 (be : Nat))).setAt [] 6 (.int .i64 cnt))
        have x0 : z_T3.cell? ⟨b12, 0, none⟩ = some (.slice none 0 0) := T3.out.boxAt 0
        have x1 : z_T3.cell? ⟨b12, 1, none⟩ = some (.slice none 0 0) := T3.out.boxAt 1
        have x2 : z_T3.cell? ⟨b12, 2, none⟩ = some (.slice none 0 0) := T3.out.boxAt 2
        have x3 : z_T3.cell? ⟨b12, 3, none⟩ = some (.slice none 0 0) := T3.out.boxAt 3
        have x4 : z_T3.cell? ⟨b12, 4, none⟩ = some (.int .i64 0) := T3.out.boxAt 4
        have x5 : z_T3.cell? ⟨b12, 5, none⟩ = some (.int .i64 0) := T3.out.boxAt 5
        have x6 : z_T3.cell? ⟨b12, 6, none⟩ = some (.int .i64 0) := T3.out.boxAt 6
        have g0 : z_T3.frozen? ⟨b12, 0, none⟩ = false := T3.out.fz 0
        have g1 : z_T3.frozen? ⟨b12, 1, none⟩ = false := T3.out.fz 1
        have g2 : z_T3.frozen? ⟨b12, 2, none⟩ = false := T3.out.fz 2
        have g3 : z_T3.frozen? ⟨b12, 3, none⟩ = false := T3.out.fz 3
        have g4 : z_T3.frozen? ⟨b12, 4, none⟩ = false := T3.out.fz 4
        have g5 : z_T3.frozen? ⟨b12, 5, none⟩ = false := T3.out.fz 5
        have g6 : z_T3.frozen? ⟨b12, 6, none⟩ = false := T3.out.fz 6
        refine wpAnyH_ready (rs := [18]) (by kernel_rfl) (by simp) ?_
        refine AllReadyH.cons rfl (fun K hK => ?_) (AllReadyH.nil)
        rw [if_pos (by rfl)]
        go_wp2_with fail
        refine hK.out _ _ T8.out.bel (fun hHeld2 => ?_)
        clear hHeld hK
        have hHeld := hHeld2
        clear hHeld2
        (try simp only [Act.put, List.getElem_toArray, List.getElem_cons_zero, List.getElem_cons_succ, List.setIfInBounds_toArray, List.set_cons_zero, List.set_cons_succ])
        refine wpAnyH_done (by kernel_rfl) ?_ _
        clear hHeld
        go_wp2_with fail
        go_meet
        case rel => exact ⟨b12, q1, q3, q4, e1, e3, e4, bT, bR, rfl, T8⟩
      · rw [if_pos (by rfl)]
        go_wp2_with fail
        have T2 := Lib.hid (T1.out.alloc (.cells zR7 51))
        refine hK.out _ _ T2.out.bel (fun hHeld2 => ?_)
        clear hHeld hK
        have hHeld := hHeld2
        clear hHeld2
        (try simp only [Act.put, List.getElem_toArray, List.getElem_cons_zero, List.getElem_cons_succ, List.setIfInBounds_toArray, List.set_cons_zero, List.set_cons_succ])
        obtain ⟨b12, hb12⟩ : ∃ b, z_T1.heap.size = b := ⟨_, rfl⟩
        obtain ⟨z_T2, hz_T2⟩ : ∃ y, z_T1.alloc (.cells zR7 51) = y := ⟨_, rfl⟩
        unfold zR7 at hz_T2 T2
        simp only [hb12, hz_T2] at T2 hHeld ⊢
        refine wpAnyH_ready (rs := [14]) (by kernel_rfl) (by simp) ?_
        refine AllReadyH.cons rfl (fun K hK => ?_) (AllReadyH.nil)
        rw [if_pos (by rfl)]
        go_wp2_with fail
        refine (HBE.out _ (S6.out.1.bel.trans ((T2.out.bel).mono hBw)) (S6.out.2.trans ((T2.out.bel).mono hB3))).mono ?_
        rintro _ z_T3 ⟨rfl, hb⟩
        have T3 := Lib.hid (T2.out.up hb)
        refine hK.out _ _ T3.out.bel (fun hHeld2 => ?_)
        clear hHeld hK
        have hHeld := hHeld2
        clear hHeld2
        (try simp only [Act.put, List.getElem_toArray, List.getElem_cons_zero, List.getElem_cons_succ, List.setIfInBounds_toArray, List.set_cons_zero, List.set_cons_succ])
        clear hb
        refine wpAnyH_take (i := 16) (v := .agg #[.slice q1 n1 e1, .slice (some ⟨bT, 0, none⟩) n2 n2, .slice q3 n3 e3, .slice q4 n4 e4, .int .i64 (ah : Nat), .int .i64 (be : Nat), .int .i64 cnt]) rfl (by kernel_rfl) (by kernel_rfl) (by kernel_rfl) (fun _ _ _ h => h) (Or.inl ⟨by rfl, by (intro w hSw; (try dsimp only at hSw); go_simp)⟩) hHeld ?_
        (try simp only [Act.put, List.getElem_toArray, List.getElem_cons_zero, List.getElem_cons_succ, List.setIfInBounds_toArray, List.set_cons_zero, List.set_cons_succ])
        have T8 := Lib.hid (((((((T3.out.setAt [] 0 (.slice q1 n1 e1)).setAt [] 1 (.slice (some ⟨bT, 0, none⟩) n2 n2)).setAt [] 2 (.slice q3 n3 e3)).setAt [] 3 (.slice q4 n4 e4)).setAt [] 4 (.int .i64 (ah : Nat))).setAt [] 5 (.int .i64 (be : Nat))).setAt [] 6 (.int .i64 cnt))
        have x0 : z_T3.cell? ⟨b12, 0, none⟩ = some (.slice none 0 0) := T3.out.boxAt 0
        have x1 : z_T3.cell? ⟨b12, 1, none⟩ = some (.slice none 0 0) := T3.out.boxAt 1
        have x2 : z_T3.cell? ⟨b12, 2, none⟩ = some (.slice none 0 0) := T3.out.boxAt 2
        have x3 : z_T3.cell? ⟨b12, 3, none⟩ = some (.slice none 0 0) := T3.out.boxAt 3
        have x4 : z_T3.cell? ⟨b12, 4, none⟩ = some (.int .i64 0) := T3.out.boxAt 4
        have x5 : z_T3.cell? ⟨b12, 5, none⟩ = some (.int .i64 0) := T3.out.boxAt 5
        have x6 : z_T3.cell? ⟨b12, 6, none⟩ = some (.int .i64 0) := T3.out.boxAt 6
        have g0 : z_T3.frozen? ⟨b12, 0, none⟩ = false := T3.out.fz 0
        have g1 : z_T3.frozen? ⟨b12, 1, none⟩ = false := T3.out.fz 1
        have g2 : z_T3.frozen? ⟨b12, 2, none⟩ = false := T3.out.fz 2
        have g3 : z_T3.frozen? ⟨b12, 3, none⟩ = false := T3.out.fz 3
        have g4 : z_T3.frozen? ⟨b12, 4, none⟩ = false := T3.out.fz 4
        have g5 : z_T3.frozen? ⟨b12, 5, none⟩ = false := T3.out.fz 5
        have g6 : z_T3.frozen? ⟨b12, 6, none⟩ = false := T3.out.fz 6
        refine wpAnyH_ready (rs := [18]) (by kernel_rfl) (by simp) ?_
        refine AllReadyH.cons rfl (fun K hK => ?_) (AllReadyH.nil)
        rw [if_pos (by rfl)]
        go_wp2_with fail
        refine hK.out _ _ T8.out.bel (fun hHeld2 => ?_)
        clear hHeld hK
        have hHeld := hHeld2
        clear hHeld2
        (try simp only [Act.put, List.getElem_toArray, List.getElem_cons_zero, List.getElem_cons_succ, List.setIfInBounds_toArray, List.set_cons_zero, List.set_cons_succ])
        refine wpAnyH_done (by kernel_rfl) ?_ _
        clear hHeld
        go_wp2_with fail
        go_meet
        case rel => exact ⟨b12, q1, q3, q4, e1, e3, e4, bT, bR, rfl, T8⟩
    · rw [if_pos (by rfl)]
      go_wp2_with fail
      have T0 : Hid (Sep B y5 ((y5.alloc (.cells zR7 51)).drew) [.box B (.cells zR7 51)]) := Lib.hid (by rw [← hB]; exact ((Sep.start y5).alloc (.cells zR7 51)).drew)
      refine hK.out _ _ T0.out.bel (fun hHeld2 => ?_)
      clear hHeld hK
      have hHeld := hHeld2
      clear hHeld2
      (try simp only [Act.put, List.getElem_toArray, List.getElem_cons_zero, List.getElem_cons_succ, List.setIfInBounds_toArray, List.set_cons_zero, List.set_cons_succ])
      obtain ⟨z_T0, hz_T0⟩ : ∃ y, (y5.alloc (.cells zR7 51)).drew = y := ⟨_, rfl⟩
      unfold zR7 at hz_T0 T0
      simp only [hB, hz_T0] at T0 hHeld ⊢
      refine wpAnyH_ready (rs := [1]) (by kernel_rfl) (by simp) ?_
      refine AllReadyH.cons rfl (fun K hK => ?_) (AllReadyH.nil)
      rw [if_pos (by rfl)]
      go_wp2_with fail
      refine (HCP.out B y5 _ _ hB3 (S6.out.2.trans ((T0.out.bel).mono hB3)) T0.out).mono ?_
      rintro _ z_T1 ⟨q1, q3, q4, e1, e3, e4, bT, bR, rfl, hs_T1⟩
      have T1 := Lib.hid hs_T1
      simp only [cpV, HNN.out.1, HNN.out.2.1, HNN.out.2.2.1, HNN.out.2.2.2.1]
      refine hK.out _ _ T1.out.bel (fun hHeld2 => ?_)
      clear hHeld hK
      have hHeld := hHeld2
      clear hHeld2
      (try simp only [Act.put, List.getElem_toArray, List.getElem_cons_zero, List.getElem_cons_succ, List.setIfInBounds_toArray, List.set_cons_zero, List.set_cons_succ])
      clear hs_T1
      refine wpAnyH_ready (rs := [14]) (by kernel_rfl) (by simp) ?_
      refine AllReadyH.cons rfl (fun K hK => ?_) (AllReadyH.nil)
      rw [if_pos (by rfl)]
      go_wp2_with fail
      refine (HBE.out _ (S6.out.1.bel.trans ((T1.out.bel).mono hBw)) (S6.out.2.trans ((T1.out.bel).mono hB3))).mono ?_
      rintro _ z_T2 ⟨rfl, hb⟩
      have T2 := Lib.hid (T1.out.up hb)
      refine hK.out _ _ T2.out.bel (fun hHeld2 => ?_)
      clear hHeld hK
      have hHeld := hHeld2
      clear hHeld2
      (try simp only [Act.put, List.getElem_toArray, List.getElem_cons_zero, List.getElem_cons_succ, List.setIfInBounds_toArray, List.set_cons_zero, List.set_cons_succ])
      clear hb
      have T2f := Lib.hid (T2.out.to 5 (by simp))
      refine wpAnyH_take (i := 16) (v := .agg #[.slice q1 n1 e1, .slice (some ⟨bT, 0, none⟩) n2 n2, .slice q3 n3 e3, .slice q4 n4 e4, .int .i64 (ah : Nat), .int .i64 (be : Nat), .int .i64 cnt]) rfl (by kernel_rfl) (by kernel_rfl) (by kernel_rfl) (fun _ _ _ h => h) (Or.inl ⟨by rfl, by (intro w hSw; (try dsimp only at hSw); go_simp)⟩) hHeld ?_
      (try simp only [Act.put, List.getElem_toArray, List.getElem_cons_zero, List.getElem_cons_succ, List.setIfInBounds_toArray, List.set_cons_zero, List.set_cons_succ])
      have T8 := Lib.hid (((((((T2f.out.setAt [] 0 (.slice q1 n1 e1)).setAt [] 1 (.slice (some ⟨bT, 0, none⟩) n2 n2)).setAt [] 2 (.slice q3 n3 e3)).setAt [] 3 (.slice q4 n4 e4)).setAt [] 4 (.int .i64 (ah : Nat))).setAt [] 5 (.int .i64 (be : Nat))).setAt [] 6 (.int .i64 cnt))
      have x0 : z_T2.cell? ⟨B, 0, none⟩ = some (.slice none 0 0) := T2f.out.boxAt 0
      have x1 : z_T2.cell? ⟨B, 1, none⟩ = some (.slice none 0 0) := T2f.out.boxAt 1
      have x2 : z_T2.cell? ⟨B, 2, none⟩ = some (.slice none 0 0) := T2f.out.boxAt 2
      have x3 : z_T2.cell? ⟨B, 3, none⟩ = some (.slice none 0 0) := T2f.out.boxAt 3
      have x4 : z_T2.cell? ⟨B, 4, none⟩ = some (.int .i64 0) := T2f.out.boxAt 4
      have x5 : z_T2.cell? ⟨B, 5, none⟩ = some (.int .i64 0) := T2f.out.boxAt 5
      have x6 : z_T2.cell? ⟨B, 6, none⟩ = some (.int .i64 0) := T2f.out.boxAt 6
      have g0 : z_T2.frozen? ⟨B, 0, none⟩ = false := T2f.out.fz 0
      have g1 : z_T2.frozen? ⟨B, 1, none⟩ = false := T2f.out.fz 1
      have g2 : z_T2.frozen? ⟨B, 2, none⟩ = false := T2f.out.fz 2
      have g3 : z_T2.frozen? ⟨B, 3, none⟩ = false := T2f.out.fz 3
      have g4 : z_T2.frozen? ⟨B, 4, none⟩ = false := T2f.out.fz 4
      have g5 : z_T2.frozen? ⟨B, 5, none⟩ = false := T2f.out.fz 5
      have g6 : z_T2.frozen? ⟨B, 6, none⟩ = false := T2f.out.fz 6
      refine wpAnyH_ready (rs := [18]) (by kernel_rfl) (by simp) ?_
      refine AllReadyH.cons rfl (fun K hK => ?_) (AllReadyH.nil)
      rw [if_pos (by rfl)]
      go_wp2_with fail
      refine hK.out _ _ T8.out.bel (fun hHeld2 => ?_)
      clear hHeld hK
      have hHeld := hHeld2
      clear hHeld2
      (try simp only [Act.put, List.getElem_toArray, List.getElem_cons_zero, List.getElem_cons_succ, List.setIfInBounds_toArray, List.set_cons_zero, List.set_cons_succ])
      refine wpAnyH_done (by kernel_rfl) ?_ _
      clear hHeld
      go_wp2_with fail
      go_meet
      case rel => exact ⟨B, q1, q3, q4, e1, e3, e4, bT, bR, rfl, T8⟩
  case rest =>
    obtain ⟨b12, q1, q3, q4, e1, e3, e4, bT, bR, rfl, T9⟩ := hcut
    obtain ⟨y6, rfl⟩ : ∃ y : World, y = wc := ⟨_, rfl⟩
    have U1 : Hid (Sep BB w y6 (.box b12 (.cells #[.slice q1 n1 e1, .slice (some ⟨bT, 0, none⟩) n2 n2, .slice q3 n3 e3, .slice q4 n4 e4, .int .i64 (ah : Nat), .int .i64 (be : Nat), .int .i64 cnt] 51 (0, 0)) :: cpI q1 q3 q4 e1 e3 e4 bT bR (scL d kl t) (scX d kl t) (bxL b9 #[.slice r1 n1 l1, .slice r2 n2 l2, .slice r3 n3 l3, .slice r4 n4 l4] :: f1 :: f2 :: f3 :: f4 :: (J ++ (.box b5 (.cells zR7 51 (0, 0)) :: .box b3 (.cells #[.int .i64 (st : Nat), .int .i64 (en : Nat), .string x] 45 (0, 0)) :: XF))))) := Lib.hid (S6.out.1.join (by rw [hB]; exact T9.out))
    clear T9
    go_upto_region 9 with fail
    have U2 := Lib.hid ((U1.out.alloc (.cells #[.pointer (some ⟨bs, 0, none⟩), .string t, .slice r1 n1 l1, .slice r2 n2 l2, .slice r3 n3 l3, .slice r4 n4 l4] 49)).drew)
    have HS9 : Hid ((fun z => z.heap[b12]? = some (.cells #[.slice q1 n1 e1, .slice (some ⟨bT, 0, none⟩) n2 n2, .slice q3 n3 e3, .slice q4 n4 e4, .int .i64 (ah : Nat), .int .i64 (be : Nat), .int .i64 cnt] 51) ∧ z.heap[b9]? = some (.cells #[.slice r1 n1 l1, .slice r2 n2 l2, .slice r3 n3 l3, .slice r4 n4 l4] 28) ∧ z.cell? ⟨b, 0, none⟩ = some (.pointer (some ⟨bs, 0, none⟩))) y6.drew) := Lib.hid ⟨U1.out.drew.at.2, U1.out.drew.tl.tl.tl.tl.tl.tl.at.2, HCELL.out _ U1.out.drew.bel b hbN _ _ HC01.out.1⟩
    refine wp_region_held_drew (S := fun z => z.heap[b12]? = some (.cells #[.slice q1 n1 e1, .slice (some ⟨bT, 0, none⟩) n2 n2, .slice q3 n3 e3, .slice q4 n4 e4, .int .i64 (ah : Nat), .int .i64 (be : Nat), .int .i64 cnt] 51) ∧ z.heap[b9]? = some (.cells #[.slice r1 n1 l1, .slice r2 n2 l2, .slice r3 n3 l3, .slice r4 n4 l4] 28) ∧ z.cell? ⟨b, 0, none⟩ = some (.pointer (some ⟨bs, 0, none⟩))) (by kernel_rfl) HS9.out (fun hHeld => ?_)
    refine wpAnyH_take (i := 0) (v := .pointer (some ⟨b, 0, none⟩)) rfl (by kernel_rfl) (by kernel_rfl) (by kernel_rfl) (fun _ _ _ h => h) (Or.inl ⟨by rfl, by (intro w hSw; (try dsimp only at hSw); go_simp)⟩) hHeld ?_
    (try simp only [Act.put, List.getElem_toArray, List.getElem_cons_zero, List.getElem_cons_succ, List.setIfInBounds_toArray, List.set_cons_zero, List.set_cons_succ])
    refine wpAnyH_take (i := 1) (v := .pointer (some ⟨b, 0, none⟩)) rfl (by kernel_rfl) (by kernel_rfl) (by kernel_rfl) (fun _ _ _ h => h) (Or.inl ⟨by rfl, by (intro w hSw; (try dsimp only at hSw); go_simp)⟩) hHeld ?_
    (try simp only [Act.put, List.getElem_toArray, List.getElem_cons_zero, List.getElem_cons_succ, List.setIfInBounds_toArray, List.set_cons_zero, List.set_cons_succ])
    refine wpAnyH_take (i := 2) (v := .pointer (some ⟨b, 0, none⟩)) rfl (by kernel_rfl) (by kernel_rfl) (by kernel_rfl) (fun _ _ _ h => h) (Or.inl ⟨by rfl, by (intro w hSw; (try dsimp only at hSw); go_simp)⟩) hHeld ?_
    (try simp only [Act.put, List.getElem_toArray, List.getElem_cons_zero, List.getElem_cons_succ, List.setIfInBounds_toArray, List.set_cons_zero, List.set_cons_succ])
    refine wpAnyH_take (i := 3) (v := .pointer (some ⟨bs, 0, none⟩)) rfl (by kernel_rfl) (by kernel_rfl) (by kernel_rfl) (fun _ _ _ h => h) (Or.inl ⟨by rfl, (by intro w9 hSw; (try dsimp only at hSw); obtain ⟨hs1, hs2, hs3⟩ := hSw; go_simp)⟩) hHeld ?_
    (try simp only [Act.put, List.getElem_toArray, List.getElem_cons_zero, List.getElem_cons_succ, List.setIfInBounds_toArray, List.set_cons_zero, List.set_cons_succ])
    refine wpAnyH_take (i := 4) (v := .string t) rfl (by kernel_rfl) (by kernel_rfl) (by kernel_rfl) (fun _ _ _ h => h) (Or.inl ⟨by rfl, by (intro w hSw; (try dsimp only at hSw); go_simp)⟩) hHeld ?_
    (try simp only [Act.put, List.getElem_toArray, List.getElem_cons_zero, List.getElem_cons_succ, List.setIfInBounds_toArray, List.set_cons_zero, List.set_cons_succ])
    refine wpAnyH_take (i := 5) (v := .agg #[.slice r1 n1 l1, .slice r2 n2 l2, .slice r3 n3 l3, .slice r4 n4 l4]) rfl (by kernel_rfl) (by kernel_rfl) (by kernel_rfl) (fun _ _ _ h => h) (Or.inl ⟨by rfl, (by intro w9 hSw; (try dsimp only at hSw); obtain ⟨hs1, hs2, hs3⟩ := hSw; have c0 := cell_of_row w9 b9 0 _ 28 (0, 0) hs2; have c1 := cell_of_row w9 b9 1 _ 28 (0, 0) hs2; have c2 := cell_of_row w9 b9 2 _ 28 (0, 0) hs2; have c3 := cell_of_row w9 b9 3 _ 28 (0, 0) hs2; simp only [List.getElem?_toArray, List.getElem?_cons_zero, List.getElem?_cons_succ] at c0 c1 c2 c3; go_simp)⟩) hHeld ?_
    (try simp only [Act.put, List.getElem_toArray, List.getElem_cons_zero, List.getElem_cons_succ, List.setIfInBounds_toArray, List.set_cons_zero, List.set_cons_succ])
    refine wpAnyH_take (i := 6) (v := .agg #[.pointer (some ⟨bs, 0, none⟩), .string t, .slice r1 n1 l1, .slice r2 n2 l2, .slice r3 n3 l3, .slice r4 n4 l4]) rfl (by kernel_rfl) (by kernel_rfl) (by kernel_rfl) (fun _ _ _ h => h) (Or.inl ⟨by rfl, by (intro w hSw; (try dsimp only at hSw); go_simp)⟩) hHeld ?_
    (try simp only [Act.put, List.getElem_toArray, List.getElem_cons_zero, List.getElem_cons_succ, List.setIfInBounds_toArray, List.set_cons_zero, List.set_cons_succ])
    refine wpAnyH_take (i := 8) (v := .agg #[.slice q1 n1 e1, .slice (some ⟨bT, 0, none⟩) n2 n2, .slice q3 n3 e3, .slice q4 n4 e4, .int .i64 (ah : Nat), .int .i64 (be : Nat), .int .i64 cnt]) rfl (by kernel_rfl) (by kernel_rfl) (by kernel_rfl) (fun _ _ _ h => h) (Or.inl ⟨by rfl, (by intro w9 hSw; (try dsimp only at hSw); obtain ⟨hs1, hs2, hs3⟩ := hSw; have c0 := cell_of_row w9 b12 0 _ 51 (0, 0) hs1; have c1 := cell_of_row w9 b12 1 _ 51 (0, 0) hs1; have c2 := cell_of_row w9 b12 2 _ 51 (0, 0) hs1; have c3 := cell_of_row w9 b12 3 _ 51 (0, 0) hs1; have c4 := cell_of_row w9 b12 4 _ 51 (0, 0) hs1; have c5 := cell_of_row w9 b12 5 _ 51 (0, 0) hs1; have c6 := cell_of_row w9 b12 6 _ 51 (0, 0) hs1; simp only [List.getElem?_toArray, List.getElem?_cons_zero, List.getElem?_cons_succ] at c0 c1 c2 c3 c4 c5 c6; go_simp)⟩) hHeld ?_
    (try simp only [Act.put, List.getElem_toArray, List.getElem_cons_zero, List.getElem_cons_succ, List.setIfInBounds_toArray, List.set_cons_zero, List.set_cons_succ])
    refine wpAnyH_ready (rs := [7]) (by kernel_rfl) (by simp) ?_
    refine AllReadyH.cons rfl (fun K hK => ?_) (AllReadyH.nil)
    rw [if_pos (by rfl)]
    go_wp2_with fail
    refine hK.out _ _ ⟨U2.out.tl.at.2, U2.out.tl.tl.tl.tl.tl.tl.tl.at.2, HCELL.out _ U2.out.bel b hbN _ _ HC01.out.1⟩ (fun hHeld2 => ?_)
    clear hHeld hK
    have hHeld := hHeld2
    clear hHeld2
    (try simp only [Act.put, List.getElem_toArray, List.getElem_cons_zero, List.getElem_cons_succ, List.setIfInBounds_toArray, List.set_cons_zero, List.set_cons_succ])
    obtain ⟨bq, hbq⟩ : ∃ b, y6.heap.size = b := ⟨_, rfl⟩
    obtain ⟨y7, hy7⟩ : ∃ y, (y6.alloc (.cells #[.pointer (some ⟨bs, 0, none⟩), .string t, .slice r1 n1 l1, .slice r2 n2 l2, .slice r3 n3 l3, .slice r4 n4 l4] 49)).drew = y := ⟨_, rfl⟩
    simp only [hbq, hy7] at U2 hHeld ⊢
    refine wpAnyH_take (i := 9) (v := .pointer (some ⟨bq, 0, none⟩)) rfl (by kernel_rfl) (by kernel_rfl) (by kernel_rfl) (fun _ _ _ h => h) (Or.inl ⟨by rfl, by (intro w hSw; (try dsimp only at hSw); go_simp)⟩) hHeld ?_
    (try simp only [Act.put, List.getElem_toArray, List.getElem_cons_zero, List.getElem_cons_succ, List.setIfInBounds_toArray, List.set_cons_zero, List.set_cons_succ])
    have hb5h : y7.heap[b5]? = some (.cells zR7 51 (0, 0)) := (U2.out.li (.box b5 (.cells zR7 51 (0, 0))) (by simp)).2
    have x0 : y7.cell? ⟨b5, 0, none⟩ = some (.slice none 0 0) := cell_of_row y7 b5 0 _ 51 (0, 0) hb5h
    have x1 : y7.cell? ⟨b5, 1, none⟩ = some (.slice none 0 0) := cell_of_row y7 b5 1 _ 51 (0, 0) hb5h
    have x2 : y7.cell? ⟨b5, 2, none⟩ = some (.slice none 0 0) := cell_of_row y7 b5 2 _ 51 (0, 0) hb5h
    have x3 : y7.cell? ⟨b5, 3, none⟩ = some (.slice none 0 0) := cell_of_row y7 b5 3 _ 51 (0, 0) hb5h
    have x4 : y7.cell? ⟨b5, 4, none⟩ = some (.int .i64 0) := cell_of_row y7 b5 4 _ 51 (0, 0) hb5h
    have x5 : y7.cell? ⟨b5, 5, none⟩ = some (.int .i64 0) := cell_of_row y7 b5 5 _ 51 (0, 0) hb5h
    have x6 : y7.cell? ⟨b5, 6, none⟩ = some (.int .i64 0) := cell_of_row y7 b5 6 _ 51 (0, 0) hb5h
    have g0 : y7.frozen? ⟨b5, 0, none⟩ = false := frozen_of_row y7 b5 0 _ 51 hb5h
    have g1 : y7.frozen? ⟨b5, 1, none⟩ = false := frozen_of_row y7 b5 1 _ 51 hb5h
    have g2 : y7.frozen? ⟨b5, 2, none⟩ = false := frozen_of_row y7 b5 2 _ 51 hb5h
    have g3 : y7.frozen? ⟨b5, 3, none⟩ = false := frozen_of_row y7 b5 3 _ 51 hb5h
    have g4 : y7.frozen? ⟨b5, 4, none⟩ = false := frozen_of_row y7 b5 4 _ 51 hb5h
    have g5 : y7.frozen? ⟨b5, 5, none⟩ = false := frozen_of_row y7 b5 5 _ 51 hb5h
    have g6 : y7.frozen? ⟨b5, 6, none⟩ = false := frozen_of_row y7 b5 6 _ 51 hb5h
    have U3 := Lib.hid (((((((U2.out.setAt (_ :: _ :: _ :: _ :: _ :: _ :: _ :: _ :: _ :: _ :: _ :: _ :: J) 0 (.slice q1 n1 e1)).setAt (_ :: _ :: _ :: _ :: _ :: _ :: _ :: _ :: _ :: _ :: _ :: _ :: J) 1 (.slice (some ⟨bT, 0, none⟩) n2 n2)).setAt (_ :: _ :: _ :: _ :: _ :: _ :: _ :: _ :: _ :: _ :: _ :: _ :: J) 2 (.slice q3 n3 e3)).setAt (_ :: _ :: _ :: _ :: _ :: _ :: _ :: _ :: _ :: _ :: _ :: _ :: J) 3 (.slice q4 n4 e4)).setAt (_ :: _ :: _ :: _ :: _ :: _ :: _ :: _ :: _ :: _ :: _ :: _ :: J) 4 (.int .i64 (ah : Nat))).setAt (_ :: _ :: _ :: _ :: _ :: _ :: _ :: _ :: _ :: _ :: _ :: _ :: J) 5 (.int .i64 (be : Nat))).setAt (_ :: _ :: _ :: _ :: _ :: _ :: _ :: _ :: _ :: _ :: _ :: _ :: J) 6 (.int .i64 cnt))
    refine wpAnyH_ready (rs := [10]) (by kernel_rfl) (by simp) ?_
    refine AllReadyH.cons rfl (fun K hK => ?_) (AllReadyH.nil)
    rw [if_pos (by rfl)]
    go_wp2_with fail
    refine hK.out _ _ ⟨U3.out.tl.at.2, U3.out.tl.tl.tl.tl.tl.tl.tl.at.2, HCELL.out _ U3.out.bel b hbN _ _ HC01.out.1⟩ (fun hHeld2 => ?_)
    clear hHeld hK
    have hHeld := hHeld2
    clear hHeld2
    (try simp only [Act.put, List.getElem_toArray, List.getElem_cons_zero, List.getElem_cons_succ, List.setIfInBounds_toArray, List.set_cons_zero, List.set_cons_succ])
    refine wpAnyH_take (i := 11) (v := .int .i64 0) rfl (by kernel_rfl) (by kernel_rfl) (by kernel_rfl) (fun _ _ _ h => h) (Or.inl ⟨by rfl, by (intro w hSw; (try dsimp only at hSw); go_simp)⟩) hHeld ?_
    (try simp only [Act.put, List.getElem_toArray, List.getElem_cons_zero, List.getElem_cons_succ, List.setIfInBounds_toArray, List.set_cons_zero, List.set_cons_succ])
    refine wpAnyH_done (by kernel_rfl) ?_ _
    clear hHeld x0 x1 x2 x3 x4 x5 x6 g0 g1 g2 g3 g4 g5 g6 hb5h
    go_wp2_with fail
    have hb5r := (U3.out.li (.box b5 (.cells #[.slice q1 n1 e1, .slice (some ⟨bT, 0, none⟩) n2 n2, .slice q3 n3 e3, .slice q4 n4 e4, .int .i64 (ah : Nat), .int .i64 (be : Nat), .int .i64 cnt] 51 (0, 0))) (by simp)).2
    refine bodyPost_ret (results_tct rfl _ _ b5 _ rfl hb5r rfl) rfl ?_
    obtain ⟨h1, h2, h3, h4, h5, h6, h7⟩ := HNN.out
    obtain ⟨i1, i2, i3, i4⟩ := HFF.out
    have hmk := HX.out.2.1.subI (L' := (J ++ [.box b5 (.cells #[.slice q1 n1 e1, .slice (some ⟨bT, 0, none⟩) n2 n2, .slice q3 n3 e3, .slice q4 n4 e4, .int .i64 (ah : Nat), .int .i64 (be : Nat), .int .i64 cnt] 51 (0, 0)), .box b3 (.cells #[.int .i64 (st : Nat), .int .i64 (en : Nat), .string x] 45 (0, 0))]) ++ XF) (fun v l hv => by
      simp only [List.mem_append, List.mem_cons, List.not_mem_nil, or_false, reduceCtorEq, false_or] at hv ⊢
      exact hv)
    have e1' : ∀ y8, Sep BB w y8 (.box bq (.cells #[.pointer (some ⟨bs, 0, none⟩), .string t, .slice r1 n1 l1, .slice r2 n2 l2, .slice r3 n3 l3, .slice r4 n4 l4] 49 (0, 0)) :: .box b12 (.cells #[.slice q1 n1 e1, .slice (some ⟨bT, 0, none⟩) n2 n2, .slice q3 n3 e3, .slice q4 n4 e4, .int .i64 (ah : Nat), .int .i64 (be : Nat), .int .i64 cnt] 51 (0, 0)) :: cpI q1 q3 q4 e1 e3 e4 bT bR (scL d kl t) (scX d kl t) (bxL b9 #[.slice r1 n1 l1, .slice r2 n2 l2, .slice r3 n3 l3, .slice r4 n4 l4] :: f1 :: f2 :: f3 :: f4 :: (J ++ (.box b5 (.cells #[.slice q1 n1 e1, .slice (some ⟨bT, 0, none⟩) n2 n2, .slice q3 n3 e3, .slice q4 n4 e4, .int .i64 (ah : Nat), .int .i64 (be : Nat), .int .i64 cnt] 51 (0, 0)) :: .box b3 (.cells #[.int .i64 (st : Nat), .int .i64 (en : Nat), .string x] 45 (0, 0)) :: XF)))) → NsI BB w XF (J ++ [.box b5 (.cells #[.slice q1 n1 e1, .slice (some ⟨bT, 0, none⟩) n2 n2, .slice q3 n3 e3, .slice q4 n4 e4, .int .i64 (ah : Nat), .int .i64 (be : Nat), .int .i64 cnt] 51 (0, 0)), .box b3 (.cells #[.int .i64 (st : Nat), .int .i64 (en : Nat), .string x] 45 (0, 0))]) d kl t bq bs o1 o2 o3 o4 r1 r2 r3 r4 l1 l2 l3 l4 vs q1 q3 q4 e1 e3 e4 bT bR y8 := by
      intro y8 hq
      have hsp := hq.sub (L' := .box bq (.cells #[.pointer (some ⟨bs, 0, none⟩), .string t, .slice r1 n1 l1, .slice r2 n2 l2, .slice r3 n3 l3, .slice r4 n4 l4] 49 (0, 0)) :: cpI q1 q3 q4 e1 e3 e4 bT bR (scL d kl t) (scX d kl t) (f1 :: f2 :: f3 :: f4 :: (J ++ (.box b5 (.cells #[.slice q1 n1 e1, .slice (some ⟨bT, 0, none⟩) n2 n2, .slice q3 n3 e3, .slice q4 n4 e4, .int .i64 (ah : Nat), .int .i64 (be : Nat), .int .i64 cnt] 51 (0, 0)) :: .box b3 (.cells #[.int .i64 (st : Nat), .int .i64 (en : Nat), .string x] 45 (0, 0)) :: XF)))) (.cons_cons _ (.cons _ (.cons_cons _ (.cons_cons _ (.cons_cons _ (.cons_cons _ (.cons_cons _ (.cons _ (.refl _)))))))))
      have hJ : J ++ (.box b5 (.cells #[.slice q1 n1 e1, .slice (some ⟨bT, 0, none⟩) n2 n2, .slice q3 n3 e3, .slice q4 n4 e4, .int .i64 (ah : Nat), .int .i64 (be : Nat), .int .i64 cnt] 51 (0, 0)) :: .box b3 (.cells #[.int .i64 (st : Nat), .int .i64 (en : Nat), .string x] 45 (0, 0)) :: XF) = (J ++ [.box b5 (.cells #[.slice q1 n1 e1, .slice (some ⟨bT, 0, none⟩) n2 n2, .slice q3 n3 e3, .slice q4 n4 e4, .int .i64 (ah : Nat), .int .i64 (be : Nat), .int .i64 cnt] 51 (0, 0)), .box b3 (.cells #[.int .i64 (st : Nat), .int .i64 (en : Nat), .string x] 45 (0, 0))]) ++ XF := by rw [List.append_assoc]; rfl
      rw [hJ, ← i1, ← i2, ← i3, ← i4] at hsp
      subst h1 h2 h3 h4
      exact ⟨HX.out.1, hmk, HSC.out.sn.up hNB hBw0 (Below.refl _ _), hsp⟩
    refine ⟨bq, bs, q1, q3, q4, e1, e3, e4, bT, bR, cnt, o1, o2, o3, o4, r1, r2, r3, r4, l1, l2, l3, l4, vs, J ++ [.box b5 (.cells #[.slice q1 n1 e1, .slice (some ⟨bT, 0, none⟩) n2 n2, .slice q3 n3 e3, .slice q4 n4 e4, .int .i64 (ah : Nat), .int .i64 (be : Nat), .int .i64 cnt] 51 (0, 0)), .box b3 (.cells #[.int .i64 (st : Nat), .int .i64 (en : Nat), .string x] 45 (0, 0))], ?_, HX.out.2.2, e1' _ U3.out⟩
    rw [rlV, h1, h2, h3, h4, h6, h7]
    rfl
end Go.Proofs.Ytemkppjdfjoipaa.I1.X
