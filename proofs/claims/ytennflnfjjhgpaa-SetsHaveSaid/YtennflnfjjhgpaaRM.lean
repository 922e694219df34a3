/- The document's Members. -/
import Derived.Test.YtennflnfjjhgpaaProg
import Derived.Test.YtennflnfjjhgpaaRn
import Derived.WalkKit
import Derived.WalkLawsBesides
import Derived.WalkSpells
import Derived.Outline
import Derived.Lib.Walk
import Derived.Lib.Hide
import Derived.RegionTactic
import Derived.LoopTactic
import Derived.Below
import Derived.IntWalk
import Derived.Lib.BufferRead
import Derived.Laws.IdiomStrings
import Derived.Laws.AppendOwn
namespace Go.Proofs.Ytennflnfjjhgpaa
set_option linter.unusedSimpArgs false
set_option linter.unusedVariables false
open Go.RowKit

theorem info5 : (Try.prog.info? 5).map (fun i => (i.zero, i.size, i.bytes)) = some (some (.int .u8 0), 1, 1) := by kernel_rfl
def OwnB (w0 : World) (l : List UInt8) (v : Value) (w : World) : Prop := w.ownsRow (w0.heap.size + 1) 5 1 v l.length (Lib.byteCells l)
theorem OwnB.conv {w0 w : World} {l : List UInt8} {v : Value} (h : OwnB w0 l v w) : (convert 52 9 v).run Try.prog w = .ok (.string (bs l)) w := by
  rcases h.2 with ⟨h1, h2⟩ | ⟨g, cap, cur, h1, _, h3, _, _, _, h4⟩
  · have : l = [] := List.eq_nil_of_length_eq_zero h2
    subst this; subst h1
    exact Lib.run_convert_nil_bytes w 52 9 5 0 Try.underlying52 Try.underlying5 Try.underlying9
  · subst h1
    exact run_convert_bytes_back w 52 9 5 ⟨g, 0, none⟩ cap l Try.underlying52 Try.underlying5 Try.underlying9 (Lib.bytes_of_row h3 (by simpa using h4))
set_option maxHeartbeats 4000000 in
theorem rmembers_any (f : Nat → Bool) (w : World) :
    Calls Try.prog 16 #[.agg (fl f)] w fun e w' => e = .returned (.string (bs (mem f 256))) ∧ Below w.heap.size w w' := by
  obtain ⟨i0, hi, hz0, hz1, hz2⟩ := info_parts info5
  have S0 := Lib.hid ((Sb.start w).alloc (.cells (fl f) 27))
  obtain ⟨G, hG⟩ : ∃ G, mem f 256 = G := ⟨_, rfl⟩
  rw [hG]
  have hG' := Lib.hid hG
  clear hG
  go_enter Try.func16, Try.ntmps16
  go_wp2
  go_loopw [3, 4] (fun v i wr => ∃ k : Nat, k ≤ 256 ∧ i = .int .i64 k ∧ Sb w wr [(w.heap.size, .cells (fl f) 27)] ∧ OwnB w (mem f k) v wr) (fun _ i _ => 256 - (intOf i).toNat)
  case atStart => exact ⟨0, by omega, rfl, S0.out, World.ownsRow_nil _ _ _ _⟩
  case round =>
    obtain ⟨k, hk, rfl, hS, hO⟩ := hrel
    have HS := Lib.hid hS
    have HO := Lib.hid hO
    clear hS hO
    by_cases hlt : k < 256
    · have hlt' : (k : Int) < 256 := by omega
      have hm : (k : Int) % 256 = k := by omega
      have c0 := HS.out.flag k hlt
      have hs : mem f (k + 1) = if f k then mem f k ++ [UInt8.ofNat k] else mem f k := rfl
      have hl : (mem f k).length ≤ 256 := by rw [mem_len]; have := cnt_le f k; omega
      generalize mem f k = l at *
      cases hf : f k
      · rw [hf] at c0 hs
        have hs' := Lib.hid hs
        clear hs hf
        go_wp2
        go_roundw
        case rel => exact ⟨k + 1, by omega, by go_num, HS.out, by rw [hs'.out]; exact HO.out⟩
        case measure => simp [intOf]; omega
      · rw [hf] at c0 hs
        have hs' := Lib.hid hs
        clear hs hf
        go_wp2_with (at_builtin; refine wpList_append_own _ rfl (.tmp 12) (.tmp 15) 52 rfl (w.heap.size + 1) 5 i0 (.int .u8 0) 1 1 Try.underlying52 hi hz0 hz1 hz2 rfl (by decide) u3 l.length (Lib.byteCells l) rfl ?c0 ⟨wr.heap.size, 0, none⟩ 1 1 [.int .u8 (k : Int)] rfl rfl ?c1 ?c2 ?c3 ?c4 ?c5 ?_)
        case c0 => exact World.ownsRow.alloc HO.out _
        case c2 => first | rfl | (intro u hu; simp at hu; subst hu; rfl)
        case c3 => unfold maxLen; omega
        case c4 => omega
        case c5 => have := HS.out.lt; simp; omega
        intro v' w7 hown7 hgrow7 _
        have HS7 := Lib.hid ((HS.out.up ((Below.refl _ _).alloc (Nat.le_refl _) _)).grown hgrow7 (fun g hg => by have := (World.ownsRow.lt HO.out g hg).1; exact ⟨by omega, by simp; omega⟩))
        rw [← byteCells_snoc l k hlt] at hown7
        have HO7 := Lib.hid hown7
        clear hown7 hgrow7
        go_wp2
        go_roundw
        case rel => exact ⟨k + 1, by omega, by go_num, HS7.out, by unfold OwnB; rw [hs'.out]; simpa using HO7.out⟩
        case measure => simp [intOf]; omega
    · obtain rfl : k = 256 := by omega
      rw [hG'.out] at HO
      have hcv := HO.out.conv
      go_wp2
      go_ret
      exact ⟨rfl, HS.out.1⟩
end Go.Proofs.Ytennflnfjjhgpaa
