/- A rope that is not there: what each call answers. -/
import Derived.Test.YtagjeckgfjddmaaShared
import Derived.Test.YtagjeckgfjddmaaAlive
namespace Go.Proofs.Ytagjeckgfjddmaa
set_option linter.unusedSimpArgs false
set_option linter.unusedVariables false
open Go.RowKit

/-- A rope that no call made, or none at all. -/
def NoRope (w : World) (p : Value) : Prop := p = .pointer none ∨ ∃ b, p = ptr b ∧ w.cell? ⟨b, 0, none⟩ = some (.bool false) ∧ b < w.heap.size
theorem NoRope.below {w w' : World} {p : Value} (h : NoRope w p) (hb : Below w.heap.size w w') : NoRope w' p := by
  rcases h with h | ⟨b, h1, h2, h3⟩
  · exact .inl h
  · exact .inr ⟨b, h1, (hb.cell (p := ⟨b, 0, none⟩) h3).trans h2, Nat.lt_of_lt_of_le h3 hb.size⟩
theorem NoRope.alloc {w : World} {p : Value} (h : NoRope w p) (o : Obj) : NoRope (w.alloc o) p := h.below ((Below.refl _ _).alloc (Nat.le_refl _) o)
theorem there_no (p : Value) (w : World) (h : NoRope w p) : Calls Try.prog 44 #[p] w fun e w' => e = .returned (.bool false) ∧ w = w' := by
  rcases h with rfl | ⟨b, rfl, h2, h3⟩
  · exact there_nil w
  · exact there_blank b w h2 h3
theorem top_no (p : Value) (w : World) (h : NoRope w p) : Calls Try.prog 42 #[p] w fun e w' => e = .returned (.pointer none) ∧ w = w' := by
  have h' := Lib.hid (there_no p w h)
  clear h
  go_enter Try.func42, Try.ntmps42
  go_wp2_with fail
  refine h'.out.mono ?_
  rintro _ _ ⟨rfl, rfl⟩
  go_wp2
  go_ret
  exact ⟨rfl, rfl⟩
theorem len_no (p : Value) (w : World) (h : NoRope w p) : Calls Try.prog 29 #[p] w fun e w' => e = .returned (.int .i64 0) ∧ w = w' := by
  have h' := Lib.hid (top_no p w h)
  have h2 := Lib.hid (bytes_any none w trivial)
  simp only [topPtr, lvs, total_nil] at h2
  clear h
  go_enter Try.func29, Try.ntmps29
  go_wp2_with fail
  refine h'.out.mono ?_
  rintro _ _ ⟨rfl, rfl⟩
  go_wp2_with fail
  refine h2.out.mono ?_
  rintro _ _ ⟨rfl, rfl⟩
  go_wp2
  go_ret
  exact ⟨rfl, rfl⟩
theorem height_no (p : Value) (w : World) (h : NoRope w p) : Calls Try.prog 31 #[p] w fun e w' => e = .returned (.int .i64 0) ∧ w = w' := by
  have h' := Lib.hid (top_no p w h)
  clear h
  go_enter Try.func31, Try.ntmps31
  go_wp2_with fail
  refine h'.out.mono ?_
  rintro _ _ ⟨rfl, rfl⟩
  go_wp2
  go_ret
  exact ⟨rfl, rfl⟩
theorem text_no (p : Value) (w : World) (h : NoRope w p) : Calls Try.prog 30 #[p] w fun e w' => e = .returned (.string .empty) ∧ Below w.heap.size w w' := by
  have h1 := Lib.hid (top_no p w h)
  have h2 := Lib.hid (len_no p w h)
  have h3 := span_any none 0 0 w trivial (by omega) (by omega) (by simp [lvs, total]) (by simp [lvs, total])
  have e : (⟨(cut (flat (lvs none)) 0 0).toArray⟩ : ByteArray) = .empty := rfl
  rw [e] at h3
  have h3' := Lib.hid h3
  clear h h3 e
  unfold topPtr at h3'
  go_enter Try.func30, Try.ntmps30
  go_wp2_with fail
  refine h1.out.mono ?_
  rintro _ _ ⟨rfl, rfl⟩
  go_wp2_with fail
  refine h2.out.mono ?_
  rintro _ _ ⟨rfl, rfl⟩
  go_wp2_with fail
  refine h3'.out.mono ?_
  rintro _ w' ⟨rfl, hb⟩
  go_wp2
  go_ret
  exact ⟨rfl, hb⟩
theorem byte_no (p : Value) (n : Int) (w : World) (h : NoRope w p) : Calls Try.prog 16 #[p, .int .i64 n] w fun e w' => e = .returned (.tuple #[.int .u8 0, .int .i64 1]) ∧ Below w.heap.size w w' := by
  have h1 := Lib.hid (there_no p _ (h.alloc (.cells #[.int .i64 n] 3)))
  have hL := Lib.hid ((Below.refl w.heap.size w).alloc (Nat.le_refl _) (.cells #[.int .i64 n] 3))
  clear h
  go_enter Try.func16, Try.ntmps16
  go_wp2_with fail
  refine h1.out.mono ?_
  rintro _ _ ⟨rfl, rfl⟩
  go_wp2
  go_ret2
  exact ⟨rfl, hL.out⟩
theorem slice_no (p : Value) (f g : Int) (w : World) (h : NoRope w p) : Calls Try.prog 18 #[p, sp f g] w fun e w' => e = .returned (.tuple #[.string .empty, .int .i64 1]) ∧ Below w.heap.size w w' := by
  have h1 := Lib.hid (there_no p _ (h.alloc (.cells #[.int .i64 f, .int .i64 g] 32)))
  have hL := Lib.hid ((Below.refl w.heap.size w).alloc (Nat.le_refl _) (.cells #[.int .i64 f, .int .i64 g] 32))
  clear h
  go_enter Try.func18, Try.ntmps18
  go_wp2_with fail
  refine h1.out.mono ?_
  rintro _ _ ⟨rfl, rfl⟩
  go_wp2
  go_ret2
  exact ⟨rfl, hL.out⟩
theorem splice_no (p : Value) (a c : Int) (t : ByteArray) (w : World) (h : NoRope w p) : Calls Try.prog 26 #[p, Ed.ed a c t] w fun e w' => e = .returned (.tuple #[.pointer none, .int .i64 1]) ∧ Below w.heap.size w w' := by
  have h1 := Lib.hid (there_no p _ (h.alloc (.cells #[.int .i64 a, .int .i64 c, .string t] 55)))
  have hL := Lib.hid ((Below.refl w.heap.size w).alloc (Nat.le_refl _) (.cells #[.int .i64 a, .int .i64 c, .string t] 55))
  clear h
  go_enter Try.func26, Try.ntmps26
  go_wp2_with fail
  refine h1.out.mono ?_
  rintro _ _ ⟨rfl, rfl⟩
  go_wp2
  go_ret2
  exact ⟨rfl, hL.out⟩
theorem of_no (p : Value) (n : Int) (w : World) (h : NoRope w p) : Calls Try.prog 22 #[p, .int .i64 n] w fun e w' => e = .returned (.tuple #[pl 0 0, .int .i64 1]) ∧ Below w.heap.size w w' := by
  have h1 := Lib.hid (there_no p _ ((h.alloc (.cells #[.int .i64 n] 3)).alloc (.cells #[.int .i64 0, .int .i64 0] 34)))
  have hL := Lib.hid (((Below.refl w.heap.size w).alloc (Nat.le_refl _) (.cells #[.int .i64 n] 3)).alloc (by simp) (.cells #[.int .i64 0, .int .i64 0] 34))
  clear h
  go_enter Try.func22, Try.ntmps22
  go_wp2_with fail
  refine h1.out.mono ?_
  rintro _ _ ⟨rfl, rfl⟩
  go_wp2
  refine bodyPost_ret (v := .tuple #[pl 0 0, .int .i64 1]) (by simp [results, Try.results22, go_sem]) rfl ⟨rfl, ?_⟩
  exact hL.out
theorem lines_no (p : Value) (w : World) (h : NoRope w p) : Calls Try.prog 20 #[p] w fun e w' => e = .returned (.int .i64 0) ∧ Below w.heap.size w w' := by
  have h1 := Lib.hid (len_no p w h)
  have h2 := Lib.hid (of_no p 0 w h)
  clear h
  go_enter Try.func20, Try.ntmps20
  go_wp2_with fail
  refine h1.out.mono ?_
  rintro _ _ ⟨rfl, rfl⟩
  go_wp2_with fail
  refine h2.out.mono ?_
  rintro _ w2 ⟨rfl, hb⟩
  go_wp2
  go_ret
  exact ⟨rfl, hb.alloc hb.size _⟩
theorem at_no (p : Value) (L C : Int) (w : World) (h : NoRope w p) : Calls Try.prog 24 #[p, pl L C] w fun e w' => e = .returned (.tuple #[.int .i64 0, .int .i64 1]) ∧ Below w.heap.size w w' := by
  have h1 := Lib.hid (there_no p _ (h.alloc (.cells #[.int .i64 L, .int .i64 C] 34)))
  have hL := Lib.hid ((Below.refl w.heap.size w).alloc (Nat.le_refl _) (.cells #[.int .i64 L, .int .i64 C] 34))
  clear h
  go_enter Try.func24, Try.ntmps24
  go_wp2_with fail
  refine h1.out.mono ?_
  rintro _ _ ⟨rfl, rfl⟩
  go_wp2
  go_ret2
  exact ⟨rfl, hL.out⟩
theorem leavesn (w : World) : Calls Try.prog 43 #[.pointer none, .slice none 0 0] w fun e w' => e = .returned (.slice none 0 0) ∧ w = w' := by
  go_enter Try.func43, Try.ntmps43
  go_wp2
  go_ret
  exact ⟨rfl, rfl⟩
theorem leaves_no (p : Value) (w : World) (h : NoRope w p) : Calls Try.prog 15 #[p] w fun e w' => e = .returned (.slice none 0 0) ∧ w = w' := by
  have h1 := Lib.hid (top_no p w h)
  clear h
  go_enter Try.func15, Try.ntmps15
  go_wp2_with fail
  refine h1.out.mono ?_
  rintro _ _ ⟨rfl, rfl⟩
  go_wp2_with fail
  refine (leavesn _).mono ?_
  rintro _ _ ⟨rfl, rfl⟩
  go_wp2
  go_loop [3, 10] (fun v i => v = .slice none 0 0 ∧ i = .int .i64 0) (fun _ _ => 0)
  case atStart => exact ⟨rfl, rfl⟩
  case round =>
    obtain ⟨rfl, rfl⟩ := hrel
    go_wp2
    go_ret
    exact ⟨rfl, rfl⟩
set_option maxHeartbeats 2000000 in
set_option maxRecDepth 100000 in
theorem shared_no (p : Value) (w : World) (h : NoRope w p) : Calls Try.prog 33 #[p, p] w fun e w' => e = .returned (.int .i64 0) ∧ Below w.heap.size w w' := by
  have h1 := Lib.hid (top_no p w h)
  have d1 : decide ((0 : Int) < min 0 0) = false := by decide
  clear h
  go_enter Try.func33, Try.ntmps33
  go_wp2_with fail
  refine h1.out.mono ?_
  rintro _ _ ⟨rfl, rfl⟩
  go_wp2_with fail
  refine (leavesn _).mono ?_
  rintro _ _ ⟨rfl, rfl⟩
  go_wp2_with fail
  refine h1.out.mono ?_
  rintro _ _ ⟨rfl, rfl⟩
  go_wp2_with fail
  refine (leavesn _).mono ?_
  rintro _ _ ⟨rfl, rfl⟩
  go_wp2_with fail
  go_loopw [7] (fun i wr => i = .int .i64 0 ∧ wr = w) (fun i _ => 0)
  case atStart => exact ⟨rfl, rfl⟩
  case round =>
    obtain ⟨rfl, rfl⟩ := hrel
    go_wp2_with fail
    go_quiet (fail)
    go_wp2_with fail
    go_quiet (fail)
    go_wp2_with fail
    go_loopw [8] (fun i wz => i = .int .i64 0 ∧ ∃ q, wz = (wr.drewN q)) (fun i _ => 0)
    case atStart => exact ⟨rfl, _, World.drewN_drewN _ _ _⟩
    case round =>
      obtain ⟨rfl, q, rfl⟩ := hrel
      go_wp2_with fail
      go_quiet (fail)
      go_wp2
      go_ret
      exact ⟨rfl, below_drewN (Below.refl _ _) _⟩
theorem same_no (w : World) : Calls Try.prog 32 #[.slice none 0 0, .slice none 0 0] w fun e w' => e = .returned (.bool true) ∧ w = w' := by
  go_enter Try.func32, Try.ntmps32
  go_wp2
  go_loop [5] (fun i => i = .int .i64 0) (fun _ => 0)
  case atStart => rfl
  case round =>
    obtain rfl := hrel
    go_wp2
    go_ret
    exact ⟨rfl, rfl⟩
end Go.Proofs.Ytagjeckgfjddmaa
