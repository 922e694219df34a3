/- Some of the chapter's examples: a, b, c. -/
import Derived.Test.YtennflnfjjhgpaaProg
import Derived.Test.YtennflnfjjhgpaaPr
import Derived.Test.YtennflnfjjhgpaaEq
import Derived.Test.YtennflnfjjhgpaaMem
import Derived.WalkKit
import Derived.WalkLawsBesides
import Derived.WalkSpells
import Derived.Outline
import Derived.Lib.Walk
import Derived.Lib.Hide
import Derived.RegionTactic
import Derived.LoopTactic
import Derived.Below
import Derived.IntWalk
import Derived.LaidEql
namespace Go.Proofs.Ytennflnfjjhgpaa
set_option linter.unusedSimpArgs false
set_option linter.unusedVariables false
open Go.RowKit

def cab (n : Nat) : Bool := ofL [99, 97, 98] n
theorem cab_has : cab 98 = true ∧ cab 100 = false := by decide
theorem cab_mem : mem cab 256 = [97, 98, 99] := by decide +kernel
theorem cab_pr : pr cab = [91, 97, 45, 99, 93] := by decide +kernel
theorem cab_ps : ∃ g, ps [91, 97, 45, 99, 93] = some g ∧ ∀ k, k < 256 → g k = cab k := by
  have h := ps_pr cab
  rwa [cab_pr] at h
theorem of_cab (w : World) : Calls Try.prog 17 #[.string (bs [99, 97, 98])] w fun e w' => e = .returned (setV cab) ∧ Below w.heap.size w w' := of_any (bs [99, 97, 98]) (by decide) w
theorem parse_cab (w : World) : Calls Try.prog 26 #[.string (bs [91, 97, 45, 99, 93])] w fun e w' => e = .returned (.tuple #[setV cab, .int .i64 0]) ∧ Below w.heap.size w w' := by
  obtain ⟨g, hg, hk⟩ := cab_ps
  refine (parse_any (bs [91, 97, 45, 99, 93]) (by decide) w).mono fun e w' h => ⟨?_, h.2⟩
  rw [h.1]
  show PE (ps [91, 97, 45, 99, 93]) = _
  rw [hg]
  show Ending.returned (.tuple #[setV g, .int .i64 0]) = _
  rw [setV_congr hk]
theorem has_cab (n : Nat) (hn : n < 256) (v : Bool) (h : cab n = v) (w : World) : Calls Try.prog 12 #[setV cab, .int .u8 n] w fun e w' => e = .returned (.bool v) ∧ Below w.heap.size w w' := by
  rw [← h]; exact has_any cab n hn w
set_option maxHeartbeats 4000000 in
set_option maxRecDepth 100000 in
theorem alive_any (w : World) : Calls Try.prog 20 #[] w fun e w' => e = .returned (.bool true) ∧ Below w.heap.size w w' := by
  have h98 : Hid (∀ w, Calls Try.prog 12 #[setV cab, .int .u8 98] w fun e w' => e = .returned (.bool true) ∧ Below w.heap.size w w') := Lib.hid fun w => has_cab 98 (by omega) true cab_has.1 w
  have h100 : Hid (∀ w, Calls Try.prog 12 #[setV cab, .int .u8 100] w fun e w' => e = .returned (.bool false) ∧ Below w.heap.size w w') := Lib.hid fun w => has_cab 100 (by omega) false cab_has.2 w
  have hme : Hid (∀ w, Calls Try.prog 15 #[setV cab] w fun e w' => e = .returned (.string (bs [97, 98, 99])) ∧ Below w.heap.size w w') := Lib.hid fun w => by rw [← cab_mem]; exact members_any cab w
  have hpr : Hid (∀ w, Calls Try.prog 24 #[setV cab] w fun e w' => e = .returned (.string (bs [91, 97, 45, 99, 93])) ∧ Below w.heap.size w w') := Lib.hid fun w => by rw [← cab_pr]; exact print_any cab w
  have hof := Lib.hid of_cab
  have hpa := Lib.hid parse_cab
  generalize cab = f at *
  have heq := eq24
  go_enter Try.func20, Try.ntmps20
  go_wp2_with fail
  refine (hof.out _).mono ?_
  rintro _ w1 ⟨rfl, hb⟩
  have HS1 := Lib.hid (show Sb w (w1.alloc (.cells (wc f) 24)) [(w1.heap.size, .cells (wc f) 24)] from ((Sb.start w).up hb).alloc _)
  clear hb
  go_wp2_with fail
  refine (hpa.out _).mono ?_
  rintro _ w2 ⟨rfl, hb⟩
  have HS2 := Lib.hid (HS1.out.up hb)
  have HS3 := Lib.hid (HS2.out.alloc (.cells (wc f) 24))
  clear hb
  generalize w1.heap.size = b1 at *
  have c0_0 := HS2.out.word 0 (by omega)
  have c0_1 := HS2.out.word 1 (by omega)
  have c0_2 := HS2.out.word 2 (by omega)
  have c0_3 := HS2.out.word 3 (by omega)
  have z0 := HS2.out.lt
  go_wp2_with fail
  refine (h98.out _).mono ?_
  rintro _ w3 ⟨rfl, hb⟩
  have HS4 := Lib.hid (HS3.out.up hb)
  clear c0_0 c0_1 c0_2 c0_3 z0
  clear hb HS3 HS2
  generalize w2.heap.size = b2 at *
  have c0_0 := HS4.out.word 0 (by omega)
  have c0_1 := HS4.out.word 1 (by omega)
  have c0_2 := HS4.out.word 2 (by omega)
  have c0_3 := HS4.out.word 3 (by omega)
  have z0 := HS4.out.lt
  have c1_0 := HS4.out.tl.word 0 (by omega)
  have c1_1 := HS4.out.tl.word 1 (by omega)
  have c1_2 := HS4.out.tl.word 2 (by omega)
  have c1_3 := HS4.out.tl.word 3 (by omega)
  have z1 := HS4.out.tl.lt
  go_wp2_with fail
  refine (h100.out _).mono ?_
  rintro _ w4 ⟨rfl, hb⟩
  have HG1 := Lib.hid (HS4.out.up hb)
  clear c0_0 c0_1 c0_2 c0_3 z0 c1_0 c1_1 c1_2 c1_3 z1
  clear hb HS4
  have c0_0 := HG1.out.word 0 (by omega)
  have c0_1 := HG1.out.word 1 (by omega)
  have c0_2 := HG1.out.word 2 (by omega)
  have c0_3 := HG1.out.word 3 (by omega)
  have z0 := HG1.out.lt
  have c1_0 := HG1.out.tl.word 0 (by omega)
  have c1_1 := HG1.out.tl.word 1 (by omega)
  have c1_2 := HG1.out.tl.word 2 (by omega)
  have c1_3 := HG1.out.tl.word 3 (by omega)
  have z1 := HG1.out.tl.lt
  go_wp2_with fail
  refine (hme.out _).mono ?_
  rintro _ w5 ⟨rfl, hb⟩
  have HG2 := Lib.hid (HG1.out.up hb)
  clear c0_0 c0_1 c0_2 c0_3 z0 c1_0 c1_1 c1_2 c1_3 z1
  clear hb HG1
  have c0_0 := HG2.out.word 0 (by omega)
  have c0_1 := HG2.out.word 1 (by omega)
  have c0_2 := HG2.out.word 2 (by omega)
  have c0_3 := HG2.out.word 3 (by omega)
  have z0 := HG2.out.lt
  have c1_0 := HG2.out.tl.word 0 (by omega)
  have c1_1 := HG2.out.tl.word 1 (by omega)
  have c1_2 := HG2.out.tl.word 2 (by omega)
  have c1_3 := HG2.out.tl.word 3 (by omega)
  have z1 := HG2.out.tl.lt
  go_wp2_with fail
  refine (hpr.out _).mono ?_
  rintro _ w6 ⟨rfl, hb⟩
  have HG3 := Lib.hid (HG2.out.up hb)
  clear c0_0 c0_1 c0_2 c0_3 z0 c1_0 c1_1 c1_2 c1_3 z1
  clear hb HG2
  have c0_0 := HG3.out.word 0 (by omega)
  have c0_1 := HG3.out.word 1 (by omega)
  have c0_2 := HG3.out.word 2 (by omega)
  have c0_3 := HG3.out.word 3 (by omega)
  have z0 := HG3.out.lt
  have c1_0 := HG3.out.tl.word 0 (by omega)
  have c1_1 := HG3.out.tl.word 1 (by omega)
  have c1_2 := HG3.out.tl.word 2 (by omega)
  have c1_3 := HG3.out.tl.word 3 (by omega)
  have z1 := HG3.out.tl.lt
  go_wp2
  go_ret
  exact ⟨rfl, HG3.out.1⟩
end Go.Proofs.Ytennflnfjjhgpaa
