/- Packages dfa, mini, munch. -/
import Derived.Test.YtkhcbnbnalidaaaProg
import Derived.Test.YtkhcbnbnalidaaaEk
import Derived.Test.YtkhcbnbnalidaaaEi
import Derived.Test.YtkhcbnbnalidaaaDn
import Derived.WalkKit
import Derived.BigFrame
import Derived.WalkMore
import Derived.ScopeJumps
import Derived.StillTailTactics
import Derived.Stop.BytesEq
import Derived.WalkLawsBesides
import Derived.WalkSpells
import Derived.Outline
import Derived.Lib.Walk
import Derived.Lib.Hide
import Derived.Lib.Slices
import Derived.Lib.Strings
import Derived.RegionTactic
import Derived.LoopTactic
import Derived.Below
import Derived.IntWalk
import Derived.Deep.QuietTactic
import Derived.BigQuiet
import Derived.Deep.MidRow
import Derived.Maps.AppendAt
import Derived.Laws.Rows
import Derived.Laws.Tables
import Derived.Deep.WholeRow
import Derived.Deep.Cut
import Derived.Deep.CutRange
import Derived.Lib.SliceRun
import Derived.Laws.MakeOwn
import Derived.Deep.RegionLaw
import Derived.Deep.RegionLawGrows
import Derived.Deep.RegionHeld3
import Derived.RegionCalls
import Derived.Deep.RegionWith
import Derived.Deep.Light
import Derived.Laws.CopyOwn
import Derived.Laws.ResultCell
namespace Go.Proofs.Ytkhcbnbnalidaaa
set_option linter.unusedSimpArgs false
set_option linter.unusedVariables false
set_option maxRecDepth 100000
open Go.RowKit
/- MunchTells. -/
set_option maxHeartbeats 16000000 in
theorem tells_any {D : Nat → Prop} {w : World} {d : Df} {ds : Array Value} {p q : Option Addr} {c f : Nat} (s : ByteArray) (n : Int) (hd : DC d ds p q c f) (hm : DM D w d p q c f) :
    Calls Try.prog 10 #[.agg ds, .string s, .int .i64 n] w fun e w' => e = .returned (.bool true) ∧ Below w.heap.size w w' := by
  have hs0 := (Sb.start w).alloc (.cells ds 26)
  have S0 := Lib.hid hs0
  have HD := Lib.hid hd
  have HM := Lib.hid hm
  have HSZ := Lib.hid hd.sz
  have HB0 : Hid (BX (w.alloc (.cells ds 26)) w.heap.size ds) := Lib.hid hs0.heap
  have HBIG := Lib.hid (big_any 20000 (by omega) hd (hm.up hs0.1))
  have hz := (zero_of_info info26r).1
  have hz48 := zero48
  clear hd hm hs0
  go_enter Try.func10, Try.ntmps10
  by_cases h300 : 300 < s.size
  · have h300' : (300 : Int) < (s.size : Int) := by omega
    go_wp2_with fail
    go_ret
    exact ⟨rfl, S0.out.1⟩
  · have h300' : ¬ (300 : Int) < (s.size : Int) := by omega
    go_wp2_with (refine wpList_load_Dg _ rfl w.heap.size ds rfl HB0.out HSZ.out rfl ?_)
    refine HBIG.out.mono ?_
    rintro _ w1 ⟨rfl, hb⟩
    have S1 := Lib.hid (S0.out.up hb)
    clear hb S0 HB0 HBIG
    obtain ⟨bg, hbg⟩ : ∃ bg, bigD 20000 d = bg := ⟨_, rfl⟩
    rw [hbg]
    cases bg with
    | true =>
      clear hbg
      go_wp2_with fail
      go_ret
      exact ⟨rfl, S1.out.1⟩
    | false =>
      have hno := bigD_no hbg
      have HL1 : Hid (d.nx.length ≤ 1000000) := Lib.hid (by omega)
      have HL2 : Hid (d.rl.length ≤ 1000000) := Lib.hid (by omega)
      have HL3 : Hid (∀ r ∈ d.nx, r.length ≤ 1000000) := Lib.hid fun r hr => by have := sumL_mem hr; omega
      have HTW := Lib.hid (twin_dfa HD.out (HM.out.up S1.out.1) HL1.out HL2.out HL3.out)
      have HB1 : Hid (BX w1 w.heap.size ds) := Lib.hid S1.out.heap
      clear hno hbg
      go_wp2_with (refine wpList_load_Dg _ rfl w.heap.size ds rfl HB1.out HSZ.out rfl ?_)
      refine HTW.out.mono ?_
      rintro _ w2 ⟨es, g, cap, zs, ms, q2, f2, rfl, hde, h1, h2, h3, h4, h5, hb⟩
      have S2 := Lib.hid (S1.out.up hb)
      have HTD : Hid (TD w1.heap.size w2 d g cap q2 f2) := Lib.hid ⟨⟨zs, ms, h1, h2, h3, h4⟩, h5⟩
      have HDE := Lib.hid hde
      have HESZ := Lib.hid hde.sz
      have hst := (S2.out.alloc (.cells zero26 26)).setRow (cs' := es) (by
        intro x hx
        simp only [List.mem_cons, List.mem_nil_iff, or_false] at hx
        subst hx
        have := S2.out.lt
        show w.heap.size ≠ w2.heap.size
        omega)
      have HS3 := Lib.hid hst
      have HHE : Hid ((w2.alloc (.cells zero26 26)).heap[w2.heap.size]? = some (.cells zero26 26 (0, 0))) := Lib.hid (heap_alloc_last w2 _)
      have HT3 : Hid (TD w1.heap.size ((w2.alloc (.cells zero26 26)).setRow w2.heap.size es) d g cap q2 f2) := Lib.hid (HTD.out.up (below_row ((Below.refl w2.heap.size w2).alloc (Nat.le_refl _) _) (Nat.le_refl _) es))
      clear hb h1 h2 h3 h4 h5 hde hst HTW HTD S1 HB1
      go_upto_region 4 with (refine wpList_store_row rfl 26 (.tmp 7) (.tmp 20) rfl w2.heap.size es rfl rfl 26 zero26 HHE.out (by rw [info26, HESZ.out]) (by rw [zero26_size, HESZ.out]) (Array.all_eq_true_iff_forall_mem.2 HDE.out.one) ?_)
      obtain ⟨b1, hb1⟩ : ∃ b1, w2.heap.size = b1 := ⟨_, rfl⟩
      rw [hb1] at HS3 HT3 ⊢
      refine at_world (fun z => Sb w z [(b1, .cells es 26), (w.heap.size, .cells ds 26)] ∧ TD w1.heap.size z d g cap q2 f2) ⟨HS3.out, HT3.out⟩ fun z hz9 => ?_
      have S4 := Lib.hid hz9.1
      have T4 := Lib.hid hz9.2
      have HBE : Hid (BX z b1 es) := Lib.hid hz9.1.heap
      have HAT := Lib.hid (at_any s n HDE.out (hz9.2.dm HL1.out HL2.out HL3.out) (by omega))
      obtain ⟨⟨⟨r, ln, lk⟩, er⟩, hat⟩ : ∃ R, atF d s n = R := ⟨_, rfl⟩
      unfold AtP at HAT
      rw [hat] at HAT
      have HATF := Lib.hid hat
      clear hz9 HS3 HT3 hb1 S2 HHE hat hz
      unfold munV at HAT
      simp only [] at HAT
      go_wp2_with (refine wpList_load_Dg _ rfl b1 es rfl HBE.out HESZ.out rfl ?_)
      refine HAT.out.mono ?_
      rintro _ w5 ⟨rfl, hb⟩
      have S5 := Lib.hid (S4.out.up hb)
      have T5 := Lib.hid (T4.out.up hb)
      have S6 := Lib.hid (S5.out.alloc (.cells #[.int .i64 r, .int .i64 (ln : Nat), .int .i64 (lk : Nat)] 48))
      have T6 := Lib.hid (T5.out.up ((Below.refl w5.heap.size w5).alloc (Nat.le_refl _) (.cells #[.int .i64 r, .int .i64 (ln : Nat), .int .i64 (lk : Nat)] 48)))
      clear hb S4 T4 HAT HBE
      go_upto_region 5 with fail
      obtain ⟨b2, hb2⟩ : ∃ b2, w5.heap.size = b2 := ⟨_, rfl⟩
      rw [hb2] at S6 ⊢
      refine at_world (fun z => Sb w z [(b2, .cells #[.int .i64 r, .int .i64 (ln : Nat), .int .i64 (lk : Nat)] 48), (b1, .cells es 26), (w.heap.size, .cells ds 26)] ∧ TD w1.heap.size z d g cap q2 f2) ⟨S6.out, T6.out⟩ fun y hy => ?_
      have S7 := Lib.hid hy.1
      have T7 := Lib.hid hy.2
      have HBD : Hid (BX y w.heap.size ds) := Lib.hid hy.1.tl.tl.heap
      have HRA := Lib.hid (refat_any s n HD.out (HM.out.up hy.1.1) (by omega))
      unfold AtR at HRA
      rw [HATF.out] at HRA
      unfold munV at HRA
      simp only [] at HRA
      clear hy hb2 S5 T5 S6 T6
      go_wp2_with (refine wpList_load_Dg _ rfl w.heap.size ds rfl HBD.out HSZ.out rfl ?_)
      refine HRA.out.mono ?_
      rintro _ w8 ⟨rfl, hb⟩
      have S8 := Lib.hid (S7.out.up hb)
      have T8 := Lib.hid (T7.out.up hb)
      have S9 := Lib.hid (S8.out.alloc (.cells #[.int .i64 r, .int .i64 (ln : Nat), .int .i64 (lk : Nat)] 48))
      have T9 := Lib.hid (T8.out.up ((Below.refl w8.heap.size w8).alloc (Nat.le_refl _) (.cells #[.int .i64 r, .int .i64 (ln : Nat), .int .i64 (lk : Nat)] 48)))
      clear hb S7 T7 HRA HBD
      go_upto_region 6 with fail
      obtain ⟨b3, hb3⟩ : ∃ b3, w8.heap.size = b3 := ⟨_, rfl⟩
      rw [hb3] at S9 ⊢
      refine at_world (fun z => Sb w z [(b3, .cells #[.int .i64 r, .int .i64 (ln : Nat), .int .i64 (lk : Nat)] 48), (b2, .cells #[.int .i64 r, .int .i64 (ln : Nat), .int .i64 (lk : Nat)] 48), (b1, .cells es 26), (w.heap.size, .cells ds 26)] ∧ TD w1.heap.size z d g cap q2 f2) ⟨S9.out, T9.out⟩ fun v hv => ?_
      have SV := Lib.hid hv.1
      have TV := Lib.hid hv.2
      have c0 : v.cell? ⟨b3, 0, none⟩ = some (.int .i64 r) := hv.1.cell 0
      have c1 : v.cell? ⟨b3, 1, none⟩ = some (.int .i64 (ln : Nat)) := hv.1.cell 1
      have c2 : v.cell? ⟨b3, 2, none⟩ = some (.int .i64 (lk : Nat)) := hv.1.cell 2
      have e0 : v.cell? ⟨b2, 0, none⟩ = some (.int .i64 r) := hv.1.tl.cell 0
      have e1 : v.cell? ⟨b2, 1, none⟩ = some (.int .i64 (ln : Nat)) := hv.1.tl.cell 1
      have e2 : v.cell? ⟨b2, 2, none⟩ = some (.int .i64 (lk : Nat)) := hv.1.tl.cell 2
      have q0 : (r == r) = true := by simp
      have q1 : (((ln : Nat) : Int) == ((ln : Nat) : Int)) = true := by simp
      have q2' : (((lk : Nat) : Int) == ((lk : Nat) : Int)) = true := by simp
      have q3 : (er == er) = true := by simp
      have HBE : Hid (BX v b1 es) := Lib.hid hv.1.tl.tl.heap
      have HBD : Hid (BX v w.heap.size ds) := Lib.hid hv.1.tl.tl.tl.heap
      have HLF := Lib.hid (left_dfa HD.out (HM.out.up hv.1.1) HDE.out hv.2 HL1.out HL2.out HL3.out)
      have HAL := Lib.hid alive_any
      clear hv hb3 S8 T8 S9 T9
      go_wp2_with (first | (refine wpList_load_Dg _ rfl b1 es rfl HBE.out HESZ.out rfl ?_) | (refine wpList_load_Dg _ rfl w.heap.size ds rfl HBD.out HSZ.out rfl ?_))
      refine HLF.out.mono ?_
      rintro _ u ⟨rfl, hb⟩
      have SU := Lib.hid (SV.out.up hb)
      clear hb c0 c1 c2 e0 e1 e2 SV TV HLF HBE HBD
      go_wp2_with fail
      refine (HAL.out u).mono ?_
      rintro _ u2 ⟨rfl, hb⟩
      have SU2 := Lib.hid (SU.out.up hb)
      clear hb SU
      go_wp2_with fail
      go_ret
      exact ⟨rfl, SU2.out.1⟩
end Go.Proofs.Ytkhcbnbnalidaaa
