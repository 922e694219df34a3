/- runs: the stretches of a set. -/
import Derived.Test.YtennflnfjjhgpaaProg
import Derived.Test.YtennflnfjjhgpaaMem
import Derived.Test.YtennflnfjjhgpaaSm
import Derived.Test.YtennflnfjjhgpaaTxt2
import Derived.WalkKit
import Derived.WalkLawsBesides
import Derived.WalkSpells
import Derived.Outline
import Derived.Lib.Walk
import Derived.Lib.Hide
import Derived.RegionTactic
import Derived.LoopTactic
import Derived.Below
import Derived.IntWalk
import Derived.Laws.AppendOwn
import Derived.Laws.OwnMore
namespace Go.Proofs.Ytennflnfjjhgpaa
set_option linter.unusedSimpArgs false
set_option linter.unusedVariables false
open Go.RowKit

def rc (R : List (Nat × Nat)) : List Value := R.flatMap fun x => [.int .u8 x.1, .int .u8 x.2]
theorem rc_len : ∀ R, (rc R).length = R.length * 2
  | [] => rfl
  | x :: r => by
    have := rc_len r
    simp only [rc, List.flatMap_cons, List.length_append, List.length_cons, List.length_nil] at this ⊢
    omega
theorem rc_app (R S : List (Nat × Nat)) : rc (R ++ S) = rc R ++ rc S := by simp [rc]
theorem rc_one (a b : Nat) : rc [(a, b)] = [.int .u8 a, .int .u8 b] := rfl
theorem rc_set (R : List (Nat × Nat)) (a b k : Nat) : (rc (R ++ [(a, b)])).set (R.length * 2 + 1) (.int .u8 k) = rc (R ++ [(a, k)]) := by
  rw [rc_app, rc_app, rc_one, rc_one, List.set_append_right _ _ (by rw [rc_len]; omega), rc_len]
  rw [show R.length * 2 + 1 - R.length * 2 = 1 by omega]; rfl
theorem rc_get (R : List (Nat × Nat)) (a b : Nat) : (rc (R ++ [(a, b)]))[R.length * 2 + 1]? = some (.int .u8 b) := by
  rw [rc_app, rc_one, List.getElem?_append_right (by rw [rc_len]; omega), rc_len]
  rw [show R.length * 2 + 1 - R.length * 2 = 1 by omega]; rfl
theorem info63 : (Try.prog.info? 63).map (fun i => (i.zero, i.size, i.bytes)) = some (some (.agg #[.int .u8 0, .int .u8 0]), 2, 2) := by kernel_rfl
theorem Sb.grown {w0 w w' : World} {L : List (Nat × Obj)} {row : Option Nat} (h : Sb w0 w L) (hg : w.grownBy w' row) (hrow : ∀ g, row = some g → w0.heap.size ≤ g ∧ ∀ c ∈ L, c.1 ≠ g) : Sb w0 w' L := by
  refine ⟨⟨hg.os.trans h.1.os, hg.tape.trans h.1.tape, hg.output.trans h.1.output, Nat.le_trans h.1.size hg.size, fun k hk => ?_⟩, fun c hc => ?_⟩
  · refine (hg.block k (Nat.lt_of_lt_of_le hk h.1.size) (fun e => ?_)).trans (h.1.block k hk)
    have := (hrow k e.symm).1; omega
  · refine ⟨(h.2 c hc).1, (hg.block c.1 (Array.getElem?_eq_some_iff.1 (h.2 c hc).2).1 (fun e => ?_)).trans (h.2 c hc).2⟩
    exact (hrow c.1 e.symm).2 c hc rfl
/-- The row of a set's stretches. -/
def Own (w0 : World) (R : List (Nat × Nat)) (v : Value) (w : World) : Prop := w.ownsRow (w0.heap.size + 1) 63 2 v R.length (rc R)
theorem Own.up {w0 w w' : World} {R : List (Nat × Nat)} {v : Value} (h : Own w0 R v w) (hb : Below w.heap.size w w') : Own w0 R v w' :=
  World.ownsRow.kept h (row := none) ⟨hb.os, hb.tape, hb.output, hb.size, fun k hk _ => hb.block k hk⟩ (by cases v.ownBlock <;> simp)
def RunsP (f : Nat → Bool) (w : World) (e : Ending) (w' : World) : Prop := ∃ v, e = .returned v ∧ Own w (runsF f 256) v w' ∧ Below w.heap.size w w'
set_option maxHeartbeats 8000000 in
set_option maxRecDepth 100000 in
theorem runs_any (f : Nat → Bool) (w : World) : Calls Try.prog 32 #[setV f] w (RunsP f w) := by
  obtain ⟨i0, hi, hz0, hz1, hz2⟩ := info_parts info63
  have S0 := Lib.hid ((Sb.start w).alloc (.cells (wc f) 24))
  go_enter Try.func32, Try.ntmps32
  go_wp2
  go_loopw [3, 6] (fun v i wr => ∃ k : Nat, k ≤ 256 ∧ i = .int .i64 k ∧ Sb w wr [(w.heap.size, .cells (wc f) 24)] ∧ Own w (runsF f k) v wr) (fun _ i _ => 256 - (intOf i).toNat)
  case atStart => exact ⟨0, by omega, rfl, S0.out, World.ownsRow_nil _ _ _ _⟩
  case round =>
    obtain ⟨k, hk, rfl, hS, hO⟩ := hrel
    have HS := Lib.hid hS
    have HO := Lib.hid hO
    clear hS hO
    by_cases hlt : k < 256
    · have hlt' : (k : Int) < 256 := by omega
      have hm : (k : Int) % 256 = k := by omega
      have c0 := HS.out.word 0 (by omega); have c1 := HS.out.word 1 (by omega); have c2 := HS.out.word 2 (by omega); have c3 := HS.out.word 3 (by omega)
      have hh := Lib.hid (has_any f k hlt)
      cases hf : f k
      · have HN := Lib.hid (runs_no f k hf)
        rw [hf] at hh
        clear hf
        go_wp2_with fail
        refine (hh.out _).mono ?_
        rintro _ w2 ⟨rfl, hb⟩
        have HS2 := Lib.hid (HS.out.up hb)
        have HO2 := Lib.hid (HO.out.up hb)
        clear c0 c1 c2 c3 hb
        go_wp2
        go_roundw
        case rel => exact ⟨k + 1, by omega, by go_num, HS2.out, by rw [HN.out]; exact HO2.out⟩
        case measure => simp [intOf]; omega
      · rw [hf] at hh
        by_cases hk0 : k = 0
        · have HN := Lib.hid (runs_new f k hf (.inl hk0))
          have hkn : ¬ (0 : Int) < (k : Int) := by omega
          clear hf hk0
          go_wp2_with fail
          refine (hh.out _).mono ?_
          rintro _ w2 ⟨rfl, hb⟩
          have HS2 := Lib.hid (HS.out.up hb)
          have HO2 := Lib.hid (HO.out.up hb)
          clear c0 c1 c2 c3 hb
          have hlen3 : (runsF f k).length + 1 ≤ 256 := by have := runs_count f k; omega
          go_wp2_with (at_builtin; refine wpList_append_own _ rfl (.tmp 30) (.tmp 34) 60 rfl (w.heap.size + 1) 63 i0 (.agg #[.int .u8 0, .int .u8 0]) 2 2 Try.underlying60 hi hz0 hz1 hz2 rfl (by decide) u3 (runsF f k).length (rc (runsF f k)) rfl ?c0 ⟨w2.heap.size, 0, none⟩ 1 1 (rc [(k, k)]) rfl rfl ?c1 ?c2 ?c3 ?c4 ?c5 ?_)
          case c0 => exact World.ownsRow.alloc HO2.out _
          case c1 =>
            intro j u hj
            match j, hj with
            | 0, hj => simp [rc] at hj; subst hj; simp [Addr.add]
            | 1, hj => simp [rc] at hj; subst hj; simp [Addr.add]
            | j + 2, hj => simp [rc] at hj
          case c2 => intro u hu; simp [rc] at hu; rcases hu with rfl | rfl <;> rfl
          case c3 => unfold maxLen; omega
          case c4 => omega
          case c5 => have := HS2.out.lt; simp; omega
          intro v' w7 hown7 hgrow7 _
          have HS7 := Lib.hid ((HS2.out.up ((Below.refl _ _).alloc (Nat.le_refl _) _)).grown hgrow7 (fun g hg => by have := (World.ownsRow.lt HO2.out g hg).1; exact ⟨by omega, by simp; omega⟩))
          have HO7 := Lib.hid hown7
          rw [← rc_app] at HO7
          clear hown7 hgrow7
          go_wp2
          go_roundw
          case rel => exact ⟨k + 1, by omega, by go_num, HS7.out, by unfold Own; rw [HN.out]; simpa using HO7.out⟩
          case measure => simp [intOf]; omega
        · have hh1 := Lib.hid (has_any f (k - 1) (by omega))
          have hk1 : (((k - 1 : Nat)) : Int) = (k : Int) - 1 := by omega
          rw [hk1] at hh1
          clear hk1
          have hk0 : (0 : Int) < (k : Int) := by omega
          cases hp : f (k - 1)
          · have HN := Lib.hid (runs_new f k hf (.inr hp))
            rw [hp] at hh1
            clear hf hp
            go_wp2_with fail
            refine (hh.out _).mono ?_
            rintro _ w1 ⟨rfl, hb⟩
            have HS1 := Lib.hid (HS.out.up hb)
            have HO1 := Lib.hid (HO.out.up hb)
            clear c0 c1 c2 c3 hb
            have c0 := HS1.out.word 0 (by omega); have c1 := HS1.out.word 1 (by omega); have c2 := HS1.out.word 2 (by omega); have c3 := HS1.out.word 3 (by omega)
            go_wp2_with fail
            refine (hh1.out _).mono ?_
            rintro _ w2 ⟨rfl, hb⟩
            have HS2 := Lib.hid (HS1.out.up hb)
            have HO2 := Lib.hid (HO1.out.up hb)
            clear c0 c1 c2 c3 hb
            have hlen3 : (runsF f k).length + 1 ≤ 256 := by have := runs_count f k; omega
            go_wp2_with (at_builtin; refine wpList_append_own _ rfl (.tmp 30) (.tmp 34) 60 rfl (w.heap.size + 1) 63 i0 (.agg #[.int .u8 0, .int .u8 0]) 2 2 Try.underlying60 hi hz0 hz1 hz2 rfl (by decide) u3 (runsF f k).length (rc (runsF f k)) rfl ?c0 ⟨w2.heap.size, 0, none⟩ 1 1 (rc [(k, k)]) rfl rfl ?c1 ?c2 ?c3 ?c4 ?c5 ?_)
            case c0 => exact World.ownsRow.alloc HO2.out _
            case c1 =>
              intro j u hj
              match j, hj with
              | 0, hj => simp [rc] at hj; subst hj; simp [Addr.add]
              | 1, hj => simp [rc] at hj; subst hj; simp [Addr.add]
              | j + 2, hj => simp [rc] at hj
            case c2 => intro u hu; simp [rc] at hu; rcases hu with rfl | rfl <;> rfl
            case c3 => unfold maxLen; omega
            case c4 => omega
            case c5 => have := HS2.out.lt; simp; omega
            intro v' w7 hown7 hgrow7 _
            have HS7 := Lib.hid ((HS2.out.up ((Below.refl _ _).alloc (Nat.le_refl _) _)).grown hgrow7 (fun g hg => by have := (World.ownsRow.lt HO2.out g hg).1; exact ⟨by omega, by simp; omega⟩))
            have HO7 := Lib.hid hown7
            rw [← rc_app] at HO7
            clear hown7 hgrow7
            go_wp2
            go_roundw
            case rel => exact ⟨k + 1, by omega, by go_num, HS7.out, by unfold Own; rw [HN.out]; simpa using HO7.out⟩
            case measure => simp [intOf]; omega
          · obtain ⟨R, a, hR, ha⟩ := runs_last f k (by omega) hp
            have HN := Lib.hid (runs_on f k (by omega) hf hp R a hR)
            rw [hp] at hh1
            clear hf hp
            go_wp2_with fail
            refine (hh.out _).mono ?_
            rintro _ w1 ⟨rfl, hb⟩
            have HS1 := Lib.hid (HS.out.up hb)
            have HO1 := Lib.hid (HO.out.up hb)
            clear c0 c1 c2 c3 hb
            have c0 := HS1.out.word 0 (by omega); have c1 := HS1.out.word 1 (by omega); have c2 := HS1.out.word 2 (by omega); have c3 := HS1.out.word 3 (by omega)
            go_wp2_with fail
            refine (hh1.out _).mono ?_
            rintro _ w2 ⟨rfl, hb⟩
            have HS2 := Lib.hid (HS1.out.up hb)
            have hO2 := HO1.out.up hb
            clear c0 c1 c2 c3 hb
            have hcnt : R.length + 1 ≤ 256 := by have := runs_count f k; rw [hR] at this; simp at this; omega
            unfold Own at hO2
            rw [hR] at hO2
            simp only [List.length_append, List.length_cons, List.length_nil] at hO2
            rcases hO2.2 with ⟨_, h0⟩ | ⟨g, cap, cur, hv, hbg, hgh, hnc, hcm, hcs, htk⟩
            · omega
            · subst hv
              have c9 := (hO2.cellAt (R.length * 2 + 1) (by omega)).trans (rc_get R a (k - 1))
              have f9 := hO2.frozenAt (R.length * 2 + 1)
              have z9 : g < w2.heap.size := (Array.getElem?_eq_some_iff.1 hgh).1
              have hst := Lib.hid (hO2.stored (R.length * 2 + 1) (.int .u8 k))
              have HS7 := Lib.hid (HS2.out.grown hst.out.2 (fun g' hg' => by cases hg'; exact ⟨by omega, by simp; omega⟩))
              clear hO2 hgh hcs htk hR
              go_wp2
              go_roundw
              case rel => exact ⟨k + 1, by omega, by go_num, HS7.out, by unfold Own; rw [HN.out]; have hst1 := hst.out.1; rw [rc_set] at hst1; simpa using hst1⟩
              case measure => simp [intOf]; omega
    · obtain rfl : k = 256 := by omega
      go_wp2
      go_ret
      exact ⟨_, rfl, HO.out, HS.out.1⟩
end Go.Proofs.Ytennflnfjjhgpaa
