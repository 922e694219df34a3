/- The document's Class, a class that begins: one byte. -/
import Derived.Test.YtennflnfjjhgpaaProg
import Derived.Test.YtennflnfjjhgpaaOne
import Derived.Test.YtennflnfjjhgpaaPs
import Derived.WalkKit
import Derived.WalkLawsBesides
import Derived.WalkSpells
import Derived.Outline
import Derived.Lib.Walk
import Derived.Lib.Hide
import Derived.RegionTactic
import Derived.LoopTactic
import Derived.Below
import Derived.IntWalk
import Derived.Lib.Slices
import Derived.Lib.Strings
import Derived.Deep.LoopGhost
import Derived.Laws.Tables
import Derived.Test.YtennflnfjjhgpaaCd
namespace Go.Proofs.Ytennflnfjjhgpaa
set_option linter.unusedSimpArgs false
set_option linter.unusedVariables false
open Go.RowKit

set_option maxHeartbeats 16000000 in
set_option maxRecDepth 100000 in
theorem class_f2 (s : ByteArray) (hs : s.size ≤ 140737488355328) (h0s : 0 < s.size) (h91 : s[0] = 91) (h1s : ¬ 1 < s.size) (hW : WholeC s false (bd (s.data.toList.drop 1) fun _ => false)) (w : World) :
    Calls Try.prog 37 #[.string s, .int .i64 0] w (ClsP s w) := by
  have S0 := Lib.hid (((Sb.start w).alloc (.cells (fl fun _ => false) 27)).alloc (.cells (fl fun _ => false) 27))
  have e1 : (w.alloc (.cells (fl fun _ => false) 27)).heap.size = w.heap.size + 1 := by simp
  rw [e1] at S0
  clear e1
  have hz := zero27
  obtain ⟨R, hR⟩ : ∃ R, bd (s.data.toList.drop 1) (fun _ => false) = R := ⟨_, rfl⟩
  rw [hR] at hW
  have HW := Lib.hid hW
  have HR := Lib.hid hR
  clear hW hR
  have q0 : ((s[0].toNat : Int) != 91) = false := by rw [h91]; rfl
  have q0' : ((s[0].toNat : Int) == 91) = true := by rw [h91]; rfl
  have hlt0 : (0 : Int) < (s.size : Int) := by omega
  have hd0 : decide ((0 : Int) ≥ (s.size : Int)) = false := by rw [decide_eq_false_iff_not]; omega
  have hd0' : ¬ s.size ≤ 0 := by omega
  have hse : ¬ s = ByteArray.empty := fun e => by rw [e] at h0s; exact absurd h0s (by decide)
  clear h91
  have key : ∀ (wa : World), Sb w wa (CL w fun _ => false) → True := fun _ _ => trivial
  clear key
  have h1s' : ¬ (1 : Int) < (s.size : Int) := by omega
  have hd1 : decide ((1 : Int) < (s.size : Int)) = false := by simpa using h1s'
  skip
  go_enter Try.func37, Try.ntmps37
  go_wp2_with fail
  have HCN := Lib.hid (HW.out.1 (by rw [← HR.out, drop_end s 1 (by omega)]; rfl))
  clear HR HW
  go_loopg [1] 1 (fun g x wr => x = .int .i64 1 ∧ Sb w wr (CL w fun _ => false))
  case atStart => exact ⟨rfl, S0.out⟩
  case round =>
    obtain ⟨rfl, hS⟩ := hrel
    have HS := Lib.hid hS
    clear hS S0
    have h0 := Lib.hid HS.out.tl.heap
    have HE := Lib.hid (HS.out.swap.setRow (cs' := fl fun _ => false) (by simp))
    go_wp2_with (first | (refine wpList_zero27 rfl rfl ?_) | (refine wpList_store_row rfl 27 (.tmp 4) (.tmp 113) rfl w.heap.size (fl fun _ => false) rfl rfl 27 _ h0.out (fsize27 _) rfl (fl_one _) ?_))
    (try simp only [Exit.inBlock, Exit.then])
    refine bodyPost_ret (v := .tuple #[.agg (fl fun _ => false), .int .i64 (s.size : Nat), .bool false]) (res_cls rfl _ _ w.heap.size (fun _ => false) _ _ rfl HE.out.heap rfl rfl) rfl (ClsP.none HCN.out HE.out.1 _ rfl)
end Go.Proofs.Ytennflnfjjhgpaa
