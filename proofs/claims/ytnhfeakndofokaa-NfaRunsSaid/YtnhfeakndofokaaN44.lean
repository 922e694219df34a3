/- Package nfa. -/
import Derived.Test.YtnhfeakndofokaaProg
import Derived.Test.YtnhfeakndofokaaN43
import Derived.WalkKit
import Derived.WalkLawsBesides
import Derived.WalkSpells
import Derived.Outline
import Derived.Lib.Walk
import Derived.Lib.Hide
import Derived.Lib.Slices
import Derived.Lib.Strings
import Derived.RegionTactic
import Derived.LoopTactic
import Derived.Below
import Derived.IntWalk
import Derived.Deep.QuietTactic
import Derived.BigQuiet
import Derived.Deep.MidRow
import Derived.Maps.AppendAt
import Derived.Laws.Rows
import Derived.Laws.Tables
import Derived.Deep.WholeRow
import Derived.Deep.Cut
import Derived.Deep.CutRange
import Derived.Lib.SliceRun
import Derived.Laws.MakeOwn
import Derived.Deep.RegionLaw
import Derived.Deep.RegionLawGrows
import Derived.Deep.RegionHeld3
import Derived.RegionCalls
import Derived.Deep.RegionWith
import Derived.Deep.Light
namespace Go.Proofs.Ytnhfeakndofokaa
set_option linter.unusedSimpArgs false
set_option linter.unusedVariables false
set_option maxRecDepth 100000
open Go.RowKit
/- The document's Begin. -/
theorem mkb_bv {w : World} {D : Nat → Prop} {b n c : Nat} {l : List Nat} (h : w.heap[b]? = some (.cells (mkb n l) 4 (0, 0))) (hD : D b) : BV D w n (fun i => decide (i ∈ l)) (.slice (some ⟨b, 0, none⟩) n c) :=
  ⟨b, 0, c, rfl, hD, fun i hi => by rw [Nat.zero_add, cell_of_row w b i _ 4 (0, 0) h, mkb_get hi]⟩
/-- Truths that say where a text leads. -/
def Leads (ss : List Nst) (m : Nat) (x : List UInt8) (f : Nat → Bool) : Prop := ∀ s, s < ss.length → (f s = true ↔ Acc hasU ss x m s)
set_option maxHeartbeats 8000000 in
theorem rbegin_any {D : Nat → Prop} {w : World} {m : Nat} {ss : List Nst} {q : Option Addr} {c : Nat} (hm : m < ss.length) (hln : ss.length ≤ 4096) (hD : ∀ b, D b → b < w.heap.size) (hSV : SV D w ss (.slice q ss.length c)) (hfi : Fine ss) (hin : InB ss) (hfl : ∀ s ∈ ss, s.fr.length ≤ 1000000) :
    Calls Try.prog 45 #[nV (m : Nat) q ss.length c] w fun e w' => (∃ v f, e = .returned v ∧ Leads ss m [] f ∧ BV (fun b => w.heap.size ≤ b ∧ b < w'.heap.size) w' ss.length f v) ∧ Below w.heap.size w w' := by
  have hs0 := ((Sb.start w).alloc (.cells #[.int .i64 (m : Nat), .slice q ss.length c] 24)).alloc (.cells (mkb ss.length []) 4)
  have hs1 : (w.alloc (.cells #[.int .i64 (m : Nat), .slice q ss.length c] 24)).heap.size = w.heap.size + 1 := by simp
  rw [hs1] at hs0
  have S0 := Lib.hid hs0
  have HF := Lib.hid fun (z : World) (hb : Below w.heap.size w z) (b0 : Nat) (hb0 : z.heap[b0]? = some (.cells (mkb ss.length [m]) 4 (0, 0))) => rfree_any (D := D) (E := fun b => b < z.heap.size) (w := z) (st := (m : Nat)) (f0 := fun i => decide (i ∈ [m])) (vin := .slice (some ⟨b0, 0, none⟩) ss.length ss.length) (by omega) hln (fun b h => Nat.lt_of_lt_of_le (hD b h) hb.size) (fun b h => h) (hSV.mono (fun b h => h) (fun b h _ => hb.block b (hD b h))) hfi hin hfl (mkb_bv hb0 (Array.getElem?_eq_some_iff.1 hb0).1)
  unfold nV at HF
  have hmk := fun w => make_b ss.length hln w
  have hmI : ¬ (m : Int) < 0 := by omega
  have hmI2 : (m : Int) < (ss.length : Int) := by omega
  clear hs0 hSV hD hin hfl
  unfold nV
  go_enter Try.func45, Try.ntmps45
  go_upto_region 2 with (simp only [hmk])
  refine at_world (fun y => Sb w y [(w.heap.size + 1, .cells (mkb ss.length []) 4), (w.heap.size, .cells #[.int .i64 (m : Nat), .slice q ss.length c] 24)]) S0.out fun y hy => ?_
  have c0 : y.cell? ⟨w.heap.size, 0, none⟩ = some (.int .i64 (m : Nat)) := hy.tl.cell 0
  have cm : y.cell? ⟨w.heap.size + 1, m, none⟩ = some (.bool false) := by rw [hy.cell m, mkb_get hm]; simp
  have cf : y.frozen? ⟨w.heap.size + 1, m, none⟩ = false := hy.free m
  have hy2 := hy.set (i := m) (.bool true) (by simp)
  rw [mkb_set] at hy2
  have HY := Lib.hid hy2
  clear hy hy2 S0 hs1
  go_upto_region 3 with fail
  refine at_world (fun y => Sb w y [(w.heap.size + 1, .cells (mkb ss.length [m]) 4), (w.heap.size, .cells #[.int .i64 (m : Nat), .slice q ss.length c] 24)]) HY.out fun y1 hy => ?_
  have HC := Lib.hid (HF.out y1 hy.1 _ hy.heap)
  have HB := Lib.hid hy.1
  have c0 : y1.cell? ⟨w.heap.size, 0, none⟩ = some (.int .i64 (m : Nat)) := hy.tl.cell 0
  have c1 : y1.cell? ⟨w.heap.size, 1, none⟩ = some (.slice q ss.length c) := hy.tl.cell 1
  clear hy HF HY cm cf
  go_wp2_with fail
  refine HC.out.mono ?_
  rintro _ w3 ⟨⟨v, f, rfl, hf, hbv⟩, hb3⟩
  have HBV := Lib.hid hbv
  have HFF : Hid (Leads ss m [] f) := Lib.hid fun s hs => by
    rw [hf s hs]
    constructor
    · rintro ⟨a, ha, hm2, hr⟩
      have e : a = m := by simpa using hm2
      subst e
      exact hr
    · intro hr
      exact ⟨m, hm, by simp, hr⟩
  have HB3 := Lib.hid (HB.out.trans (hb3.mono HB.out.size))
  have HSZ := Lib.hid HB.out.size
  clear hbv hf hb3 HC HB c0 c1
  go_wp2_with fail
  go_ret
  exact ⟨⟨_, _, rfl, HFF.out, HBV.out.mono (by omega) (fun b h => ⟨Nat.le_trans HSZ.out h.1, h.2⟩) (fun b _ _ => rfl)⟩, HB3.out⟩
end Go.Proofs.Ytnhfeakndofokaa
