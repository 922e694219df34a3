/- Texts of package regs, one behind the other. -/
import Derived.Lib.Slices
import Derived.Lib.Strings
import Derived.Test.YtmjojahkbjlcdaaDoorProg
import Derived.Test.YtmjojahkbjlcdaaDoorY3
import Derived.Test.YtmjojahkbjlcdaaDoorY4
import Derived.WalkKit
import Derived.WalkLawsBesides
import Derived.WalkSpells
import Derived.Outline
import Derived.Lib.Walk
import Derived.Lib.Hide
import Derived.RegionTactic
import Derived.LoopTactic
import Derived.Below
import Derived.IntWalk
import Derived.Deep.QuietTactic
import Derived.BigQuiet
import Derived.Test.YtmjojahkbjlcdaaDoorH3
import Derived.Test.YtmjojahkbjlcdaaDoorY12
import Derived.Test.YtmjojahkbjlcdaaDoorY27
import Derived.Test.YtmjojahkbjlcdaaDoorY15
import Derived.Test.YtmjojahkbjlcdaaDoorG37
import Derived.Test.YtmjojahkbjlcdaaDoorG16
section
namespace Go.Proofs.YtmjojahkbjlcdaaDoor
set_option linter.unusedSimpArgs false
set_option linter.unusedVariables false
set_option maxRecDepth 100000
open Go.RowKit

/- The document's atom. -/
/-- What the document's reader answers. -/
def RdP (s : ByteArray) (w : World) (r : Except (List UInt8) (RT × List UInt8)) (e : Ending) (w' : World) : Prop := Below w.heap.size w w' ∧
  match r with
  | .error q => Suf s q ∧ e = .returned (.agg (readC 0 u0 (.slice none 0 0) ((s.size - q.length : Nat) : Int) true))
  | .ok (t, q) => Suf s q ∧ ∃ k u p n c, e = .returned (.agg (readC k u (.slice p n c) ((s.size - q.length : Nat) : Int) false)) ∧ RV (fun b => w.heap.size ≤ b ∧ b < w'.heap.size) w' t (.agg (nodeC k u (.slice p n c)))
def CHD (s : ByteArray) (q : List UInt8) (r : Except (List UInt8) (RT × List UInt8)) : Prop := Hid (∀ w, Calls Tryd.prog 38 #[.string s, .int .i64 ((s.size - q.length : Nat) : Int)] w (RdP s w r))
set_option maxHeartbeats 1000000 in
theorem at_par_e {s : ByteArray} {p0 : Nat} {w : World} {b : UInt8} (hs : s.size ≤ 140737488355328) (hp : p0 < s.size) (hg : ∀ h, s[p0]'h = b) (h40 : ((b.toNat : Int) == 40) = true) (m : Nat) (P : Prop) (HC : Hid (∀ w, Calls Tryd.prog 38 #[.string s, .int .i64 ((p0 : Int) + 1)] w fun e w' => (e = .returned (.agg (readC 0 u0 (.slice none 0 0) (m : Nat) true)) ∧ P) ∧ Below w.heap.size w w')) :
    Calls Tryd.prog 68 #[.string s, .int .i64 (p0 : Nat)] w fun e w' => (e = .returned (.agg (readC 0 u0 (.slice none 0 0) (m : Nat) true)) ∧ P) ∧ Below w.heap.size w w' := by
  have hz := zero53
  have hz2 := zero27r
  have hp' : (p0 : Int) < (s.size : Int) := by omega
  have HA := Lib.hid ((Sb.start w).alloc (.cells (readC 0 u0 (.slice none 0 0) 0 false) 53))
  go_enter Tryd.func68, Tryd.ntmps68
  go_wp2_with fail
  refine (HC.out _).mono ?_
  rintro _ w5 ⟨⟨rfl, hP⟩, hb⟩
  have HA2 := Lib.hid (HA.out.up hb)
  clear hb HA
  have HA := HA2
  clear HA2
  have HF0 := Lib.hid (HA.out.alloc (.cells (readC 0 u0 (.slice none 0 0) 0 false) 53))
  have h7 := Lib.hid HF0.out.heap
  have HF1 := Lib.hid (HF0.out.setRow (cs' := (readC 0 u0 (.slice none 0 0) (m : Nat) true)) (by intro c hc; have z := HA.out.lt; simp at hc; subst hc; simp at z ⊢; omega))
  go_upto_region 4 with (refine wpList_store_row rfl 53 (.tmp 6) (.tmp 20) rfl w5.heap.size (readC 0 u0 (.slice none 0 0) (m : Nat) true) rfl rfl 53 _ h7.out size53 rfl (readC_one _ _ _ _ _ _ _) ?_)
  have hbw : w.heap.size < w5.heap.size := HA.out.lt
  generalize w5.heap.size = b6 at *
  refine at_world (fun y => Sb w y [(b6, .cells (readC 0 u0 (.slice none 0 0) (m : Nat) true) 53), (w.heap.size, .cells (readC 0 u0 (.slice none 0 0) 0 false) 53)]) HF1.out fun y hy => ?_
  have HS := Lib.hid hy
  clear hy HF0 HF1 h7 HA
  have q0 : y.cell? ⟨b6, 0, none⟩ = some (.int .i64 0) := HS.out.cell 0
  have q1 : y.cell? ⟨b6, 1, none⟩ = some (.int .u64 (u0 0)) := HS.out.cell 1
  have q2 : y.cell? ⟨b6, 2, none⟩ = some (.int .u64 (u0 1)) := HS.out.cell 2
  have q3 : y.cell? ⟨b6, 3, none⟩ = some (.int .u64 (u0 2)) := HS.out.cell 3
  have q4 : y.cell? ⟨b6, 4, none⟩ = some (.int .u64 (u0 3)) := HS.out.cell 4
  have q5 : y.cell? ⟨b6, 5, none⟩ = some (.slice none 0 0) := HS.out.cell 5
  have q6 : y.cell? ⟨b6, 6, none⟩ = some (.int .i64 ((m : Nat))) := HS.out.cell 6
  have q7 : y.cell? ⟨b6, 7, none⟩ = some (.bool true) := HS.out.cell 7
  have h6 := Lib.hid HS.out.heap
  have HT := Lib.hid HS.out.tl
  have HY := Lib.hid HT.out.heap
  go_wp2_with (first | (refine wpList_load_row rfl 53 (.tmp 6) rfl b6 rfl 53 (readC 0 u0 (.slice none 0 0) (m : Nat) true) (0, 0) _ h6.out Tryd.underlying53 rfl size53 ?_) | (refine wpList_store_row rfl 53 (.tmp 4) (.tmp 23) rfl w.heap.size (readC 0 u0 (.slice none 0 0) (m : Nat) true) rfl rfl 53 _ HY.out size53 rfl (readC_one _ _ _ _ _ _ _) ?_))
  (try simp only [Exit.inBlock, Exit.then])
  exact bodyPost_ret (v := .agg (readC 0 (u0) (.slice none 0 0) ((m : Nat)) true)) (results_cell_row rfl _ _ w.heap.size 53 _ (0, 0) _ rfl (setRow_heap _ w.heap.size _ _ 53 (0, 0) HY.out) Tryd.underlying53 rfl size53) rfl ⟨⟨rfl, hP⟩, below_row HT.out.1 (Nat.le_refl _) _⟩
set_option maxHeartbeats 1000000 in
theorem at_par_end {s : ByteArray} {p0 : Nat} {w : World} {b : UInt8} (hs : s.size ≤ 140737488355328) (hp : p0 < s.size) (hg : ∀ h, s[p0]'h = b) (h40 : ((b.toNat : Int) == 40) = true) (m : Nat) (P : Prop) (t : RT) (HC : Hid (∀ w, Calls Tryd.prog 38 #[.string s, .int .i64 ((p0 : Int) + 1)] w fun e w' => ((∃ k u p n c, e = .returned (.agg (readC k u (.slice p n c) (m : Nat) false)) ∧ RV (fun b => w.heap.size ≤ b ∧ b < w'.heap.size) w' t (.agg (nodeC k u (.slice p n c)))) ∧ P) ∧ Below w.heap.size w w')) (hm : s.size ≤ m) :
    Calls Tryd.prog 68 #[.string s, .int .i64 (p0 : Nat)] w fun e w' => (e = .returned (.agg (readC 0 u0 (.slice none 0 0) (m : Nat) true)) ∧ P) ∧ Below w.heap.size w w' := by
  have hz := zero53
  have hz2 := zero27r
  have hp' : (p0 : Int) < (s.size : Int) := by omega
  have HA := Lib.hid ((Sb.start w).alloc (.cells (readC 0 u0 (.slice none 0 0) 0 false) 53))
  have hm' : (s.size : Int) ≤ (m : Int) := by omega
  go_enter Tryd.func68, Tryd.ntmps68
  go_wp2_with fail
  refine (HC.out _).mono ?_
  rintro _ w5 ⟨⟨⟨k, u, p, n, c, rfl, hv⟩, hP⟩, hb⟩
  have HA2 := Lib.hid (HA.out.up hb)
  clear hb HA
  have HA := HA2
  clear HA2
  obtain ⟨B5, hB5⟩ : ∃ B5, w.heap.size + 1 = B5 := ⟨_, rfl⟩
  have hv2 : RV (fun b => w.heap.size + 1 ≤ b ∧ b < w5.heap.size) ((w5.alloc (.cells (readC 0 u0 (.slice none 0 0) 0 false) 53)).setRow w5.heap.size (readC k u (.slice p n c) (m : Nat) false)) t (.agg (nodeC k u (.slice p n c))) := RV.mono (fun b h => ⟨by have := h.1; simpa using this, h.2⟩) (fun b h _ => (setRow_other _ w5.heap.size b _ (by have := h.2; omega)).trans (((Below.refl w5.heap.size w5).alloc (Nat.le_refl _) _).block b h.2)) hv
  have HV := Lib.hid hv2
  clear hv hv2 hB5
  have HF0 := Lib.hid (HA.out.alloc (.cells (readC 0 u0 (.slice none 0 0) 0 false) 53))
  have h7 := Lib.hid HF0.out.heap
  have HF1 := Lib.hid (HF0.out.setRow (cs' := (readC k u (.slice p n c) (m : Nat) false)) (by intro c hc; have z := HA.out.lt; simp at hc; subst hc; simp at z ⊢; omega))
  go_upto_region 4 with (refine wpList_store_row rfl 53 (.tmp 6) (.tmp 20) rfl w5.heap.size (readC k u (.slice p n c) (m : Nat) false) rfl rfl 53 _ h7.out size53 rfl (readC_one _ _ _ _ _ _ _) ?_)
  have hbw : w.heap.size < w5.heap.size := HA.out.lt
  generalize w5.heap.size = b6 at *
  refine at_world (fun y => Sb w y [(b6, .cells (readC k u (.slice p n c) (m : Nat) false) 53), (w.heap.size, .cells (readC 0 u0 (.slice none 0 0) 0 false) 53)] ∧ RV (fun b => w.heap.size + 1 ≤ b ∧ b < b6) y t (.agg (nodeC k u (.slice p n c)))) ⟨HF1.out, HV.out⟩ fun y hy => ?_
  have HS := Lib.hid hy.1
  have HVY := Lib.hid hy.2
  clear hy HF0 HF1 h7 HA HV
  have q0 : y.cell? ⟨b6, 0, none⟩ = some (.int .i64 k) := HS.out.cell 0
  have q1 : y.cell? ⟨b6, 1, none⟩ = some (.int .u64 (u 0)) := HS.out.cell 1
  have q2 : y.cell? ⟨b6, 2, none⟩ = some (.int .u64 (u 1)) := HS.out.cell 2
  have q3 : y.cell? ⟨b6, 3, none⟩ = some (.int .u64 (u 2)) := HS.out.cell 3
  have q4 : y.cell? ⟨b6, 4, none⟩ = some (.int .u64 (u 3)) := HS.out.cell 4
  have q5 : y.cell? ⟨b6, 5, none⟩ = some (.slice p n c) := HS.out.cell 5
  have q6 : y.cell? ⟨b6, 6, none⟩ = some (.int .i64 ((m : Nat))) := HS.out.cell 6
  have q7 : y.cell? ⟨b6, 7, none⟩ = some (.bool false) := HS.out.cell 7
  have HT := Lib.hid HS.out.tl
  have HY := Lib.hid HT.out.heap
  go_wp2_with (refine wpList_store_row rfl 53 (.tmp 4) (.tmp 38) rfl w.heap.size (readC 0 u0 (.slice none 0 0) (m : Nat) true) rfl rfl 53 _ HY.out size53 rfl (readC_one _ _ _ _ _ _ _) ?_)
  (try simp only [Exit.inBlock, Exit.then])
  exact bodyPost_ret (v := .agg (readC 0 (u0) (.slice none 0 0) ((m : Nat)) true)) (results_cell_row rfl _ _ w.heap.size 53 _ (0, 0) _ rfl (setRow_heap _ w.heap.size _ _ 53 (0, 0) HY.out) Tryd.underlying53 rfl size53) rfl ⟨⟨rfl, hP⟩, below_row HT.out.1 (Nat.le_refl _) _⟩
set_option maxHeartbeats 1000000 in
theorem at_par_ok {s : ByteArray} {p0 : Nat} {w : World} {b : UInt8} (hs : s.size ≤ 140737488355328) (hp : p0 < s.size) (hg : ∀ h, s[p0]'h = b) (h40 : ((b.toNat : Int) == 40) = true) (m : Nat) (P : Prop) (t : RT) (HC : Hid (∀ w, Calls Tryd.prog 38 #[.string s, .int .i64 ((p0 : Int) + 1)] w fun e w' => ((∃ k u p n c, e = .returned (.agg (readC k u (.slice p n c) (m : Nat) false)) ∧ RV (fun b => w.heap.size ≤ b ∧ b < w'.heap.size) w' t (.agg (nodeC k u (.slice p n c)))) ∧ P) ∧ Below w.heap.size w w')) (hm : m < s.size) (hgm : ∀ h, s[m]'h = 41) :
    Calls Tryd.prog 68 #[.string s, .int .i64 (p0 : Nat)] w fun e w' => ((∃ k u p n c, e = .returned (.agg (readC k u (.slice p n c) ((m : Int) + 1) false)) ∧ RV (fun b => w.heap.size ≤ b ∧ b < w'.heap.size) w' t (.agg (nodeC k u (.slice p n c)))) ∧ P) ∧ Below w.heap.size w w' := by
  have hz := zero53
  have hz2 := zero27r
  have hp' : (p0 : Int) < (s.size : Int) := by omega
  have HA := Lib.hid ((Sb.start w).alloc (.cells (readC 0 u0 (.slice none 0 0) 0 false) 53))
  have hm' : ¬ (s.size : Int) ≤ (m : Int) := by omega
  have hm2 : (m : Int) < (s.size : Int) := by omega
  go_enter Tryd.func68, Tryd.ntmps68
  go_wp2_with fail
  refine (HC.out _).mono ?_
  rintro _ w5 ⟨⟨⟨k, u, p, n, c, rfl, hv⟩, hP⟩, hb⟩
  have HA2 := Lib.hid (HA.out.up hb)
  clear hb HA
  have HA := HA2
  clear HA2
  obtain ⟨B5, hB5⟩ : ∃ B5, w.heap.size + 1 = B5 := ⟨_, rfl⟩
  have hv2 : RV (fun b => w.heap.size + 1 ≤ b ∧ b < w5.heap.size) ((w5.alloc (.cells (readC 0 u0 (.slice none 0 0) 0 false) 53)).setRow w5.heap.size (readC k u (.slice p n c) (m : Nat) false)) t (.agg (nodeC k u (.slice p n c))) := RV.mono (fun b h => ⟨by have := h.1; simpa using this, h.2⟩) (fun b h _ => (setRow_other _ w5.heap.size b _ (by have := h.2; omega)).trans (((Below.refl w5.heap.size w5).alloc (Nat.le_refl _) _).block b h.2)) hv
  have HV := Lib.hid hv2
  clear hv hv2 hB5
  have HF0 := Lib.hid (HA.out.alloc (.cells (readC 0 u0 (.slice none 0 0) 0 false) 53))
  have h7 := Lib.hid HF0.out.heap
  have HF1 := Lib.hid (HF0.out.setRow (cs' := (readC k u (.slice p n c) (m : Nat) false)) (by intro c hc; have z := HA.out.lt; simp at hc; subst hc; simp at z ⊢; omega))
  go_upto_region 4 with (refine wpList_store_row rfl 53 (.tmp 6) (.tmp 20) rfl w5.heap.size (readC k u (.slice p n c) (m : Nat) false) rfl rfl 53 _ h7.out size53 rfl (readC_one _ _ _ _ _ _ _) ?_)
  have hbw : w.heap.size < w5.heap.size := HA.out.lt
  generalize w5.heap.size = b6 at *
  refine at_world (fun y => Sb w y [(b6, .cells (readC k u (.slice p n c) (m : Nat) false) 53), (w.heap.size, .cells (readC 0 u0 (.slice none 0 0) 0 false) 53)] ∧ RV (fun b => w.heap.size + 1 ≤ b ∧ b < b6) y t (.agg (nodeC k u (.slice p n c)))) ⟨HF1.out, HV.out⟩ fun y hy => ?_
  have HS := Lib.hid hy.1
  have HVY := Lib.hid hy.2
  clear hy HF0 HF1 h7 HA HV
  have q0 : y.cell? ⟨b6, 0, none⟩ = some (.int .i64 k) := HS.out.cell 0
  have q1 : y.cell? ⟨b6, 1, none⟩ = some (.int .u64 (u 0)) := HS.out.cell 1
  have q2 : y.cell? ⟨b6, 2, none⟩ = some (.int .u64 (u 1)) := HS.out.cell 2
  have q3 : y.cell? ⟨b6, 3, none⟩ = some (.int .u64 (u 2)) := HS.out.cell 3
  have q4 : y.cell? ⟨b6, 4, none⟩ = some (.int .u64 (u 3)) := HS.out.cell 4
  have q5 : y.cell? ⟨b6, 5, none⟩ = some (.slice p n c) := HS.out.cell 5
  have q6 : y.cell? ⟨b6, 6, none⟩ = some (.int .i64 ((m : Nat))) := HS.out.cell 6
  have q7 : y.cell? ⟨b6, 7, none⟩ = some (.bool false) := HS.out.cell 7
  have HT := Lib.hid HS.out.tl
  have HY := Lib.hid HT.out.heap
  have hb6 : b6 < y.heap.size := HS.out.lt
  go_wp2_with (first | (refine wpList_bread (k := k) (u := u) (p := p) (n := n) (c := c) (i := (m : Int) + 1) rfl rfl rfl rfl ?_) | (refine wpList_store_row rfl 53 (.tmp 4) (.tmp 44) rfl w.heap.size (readC k u (.slice p n c) ((m : Int) + 1) false) rfl rfl 53 _ HY.out size53 rfl (readC_one _ _ _ _ _ _ _) ?_))
  (try simp only [Exit.inBlock, Exit.then])
  refine bodyPost_ret (v := .agg (readC k u (.slice p n c) ((m : Int) + 1) false)) (results_cell_row rfl _ _ w.heap.size 53 _ (0, 0) _ rfl (setRow_heap _ w.heap.size _ _ 53 (0, 0) HY.out) Tryd.underlying53 rfl size53) rfl ⟨⟨⟨k, u, p, n, c, rfl, RV.mono (fun b h => ⟨by have := h.1; omega, by have := h.2; simp; omega⟩) (fun b h _ => setRow_other _ w.heap.size b _ (by have := h.1; omega)) HVY.out⟩, hP⟩, below_row HT.out.1 (Nat.le_refl _) _⟩
end Go.Proofs.YtmjojahkbjlcdaaDoor
end
section
namespace Go.Proofs.YtmjojahkbjlcdaaDoor
set_option linter.unusedSimpArgs false
set_option linter.unusedVariables false
set_option maxRecDepth 100000
open Go.RowKit

/- The document's atom, whatever it reads. -/
theorem Suf.dr {s : ByteArray} {q : List UInt8} (h : Suf s q) : s.data.toList.drop (s.size - q.length) = q := by
  obtain ⟨p, hp⟩ := h
  have hl : s.size = p.length + q.length := by
    have : s.data.toList.length = (p ++ q).length := by rw [hp]
    rw [List.length_append] at this
    exact this
  rw [hl, show p.length + q.length - q.length = p.length by omega, hp, List.drop_left]
theorem clsd_any {s : ByteArray} {r : List UInt8} (h : Suf s (91 :: r)) (hs : s.size ≤ 1000) (w : World) :
    Calls Tryd.prog 85 #[.string s, .int .i64 ((s.size - (91 :: r).length : Nat) : Int)] w fun e w' => Below w.heap.size w w' ∧ match csl (91 :: r) with
      | .error q => e = cls3 (fun _ => false) ((s.size - q.length : Nat) : Int) false
      | .ok (_, t) => ∀ f, ps ((91 :: r).take ((91 :: r).length - t.length)) = some f → e = cls3 f ((s.size - t.length : Nat) : Int) true := by
  have hlt := h.lt
  have hg := h.get hlt
  have hn := h.next
  have hdr := h.tl.dr
  have hcs := csl_suf h hs
  have key : Calls Tryd.prog 85 #[.string s, .int .i64 ((s.size - (91 :: r).length) : Nat)] w (DclP s (decide (r.head? = some 94)) (clw (hat r)) (bd (hat r) fun _ => false) w) := by
    rw [← hn] at hdr
    have hrl : r.length = s.size - ((s.size - (91 :: r).length) + 1) := by have e := drop_len s (s.size - (91 :: r).length + 1); rw [hdr] at e; exact e
    cases r with
    | nil =>
      have h1 : ¬ (s.size - (91 :: []).length) + 1 < s.size := by have hl := h.len; simp only [List.length_cons, List.length_nil] at hl ⊢; omega
      have k := dclass_f2 s (s.size - (91 :: []).length) (by omega) hlt hg h1 w
      rw [hdr] at k
      exact k
    | cons d q =>
      have h1 : (s.size - (91 :: d :: q).length) + 1 < s.size := by have hl := h.len; simp only [List.length_cons, List.length_nil] at hl ⊢; omega
      have hd : s[(s.size - (91 :: d :: q).length) + 1] = d := by
        have e := drop_at s ((s.size - (91 :: d :: q).length) + 1) h1
        rw [hdr] at e
        injection e with e1 e2
        exact e1.symm
      by_cases hc : d = 94
      · subst hc
        have k := dclass_t s (s.size - (91 :: 94 :: q).length) (by omega) hlt hg h1 hd w
        have e2 : s.data.toList.drop ((s.size - (91 :: 94 :: q).length) + 2) = q := by
          have e := drop_at s ((s.size - (91 :: 94 :: q).length) + 1) h1
          rw [hdr] at e
          injection e with e1 e2
          exact e2.symm
        rw [e2] at k
        have e3 : hat (94 :: q) = q := by simp [hat]
        rw [e3]
        exact k
      · have k := dclass_f1 s (s.size - (91 :: d :: q).length) (by omega) hlt hg h1 (by rw [hd]; exact hc) w
        rw [hdr] at k
        have e3 : hat (d :: q) = d :: q := by simp [hat, hc]
        rw [e3, show decide ((d :: q).head? = some 94) = false by simp [hc]]
        exact k
  refine key.mono fun e w' ⟨hb, k⟩ => ⟨hb, ?_⟩
  have e0 : csl (91 :: r) = match clw (hat r) with
      | .error t => .error t
      | .ok (_, t) => .ok (setO (ps ((91 :: r).take ((91 :: r).length - t.length))), t) := rfl
  cases hc : clw (hat r) with
  | error q =>
    rw [hc] at k e0
    rw [e0] at hcs ⊢
    have hl := Suf.len hcs
    show e = _
    rw [show ((s.size - q.length : Nat) : Int) = (s.size : Int) - (q.length : Nat) by omega]
    exact k
  | ok v =>
    obtain ⟨⟨⟩, t⟩ := v
    rw [hc] at k e0
    rw [e0] at hcs ⊢
    have hl := Suf.len hcs.1
    obtain ⟨g, hR, he⟩ := k
    have hp := ps_cut (r := r) rfl hR
    intro f hf
    rw [hp] at hf
    cases hf
    rw [show ((s.size - t.length : Nat) : Int) = (s.size : Int) - (t.length : Nat) by omega]
    exact he
theorem csl_f {r : List UInt8} {x : Value} {t : List UInt8} (h : csl (91 :: r) = .ok (x, t)) : ∃ f, ps ((91 :: r).take ((91 :: r).length - t.length)) = some f := by
  have e0 : csl (91 :: r) = match clw (hat r) with
      | .error t => .error t
      | .ok (_, t) => .ok (setO (ps ((91 :: r).take ((91 :: r).length - t.length))), t) := rfl
  rw [e0] at h
  cases hc : clw (hat r) with
  | error q => rw [hc] at h; cases h
  | ok v =>
    obtain ⟨⟨⟩, t'⟩ := v
    rw [hc] at h
    cases h
    obtain ⟨g, hg⟩ := (bd_clw _ (hat r) (fun _ => false) (Nat.le_refl _)).2 _ hc
    exact ⟨_, ps_cut rfl hg⟩
theorem u8f {c : UInt8} (k : Nat) (hk : k < 256) (h : c ≠ UInt8.ofNat k) : ((c.toNat : Int) == (k : Nat)) = false := by
  rw [beq_eq_false_iff_ne]
  intro e
  apply h
  have : c.toNat = k := by omega
  rw [← this]; simp
/-- What a reader reads ends the text or stands ahead of a closing bracket. -/
def Stp (ch : List UInt8 → Except (List UInt8) (RT × List UInt8)) : Prop := ∀ l t q, ch l = .ok (t, q) → q = [] ∨ ∃ q', q = 41 :: q'
theorem RdP.set {s : ByteArray} {w w' : World} {e : Ending} {u : Nat → Int} {q : List UInt8} {n : Int} (hq : Suf s q) (hn : n = ((s.size - q.length : Nat) : Int)) (k : e = .returned (.agg (readC 2 u (.slice none 0 0) n false)) ∧ Below w.heap.size w w') : RdP s w (.ok (setT u, q)) e w' := by
  subst hn
  exact ⟨k.2, hq, 2, u, none, 0, 0, k.1, .leaf 2 u none 0⟩
theorem RdP.err {s : ByteArray} {w w' : World} {e : Ending} {q : List UInt8} {n : Int} (hq : Suf s q) (hn : n = ((s.size - q.length : Nat) : Int)) (k : e = .returned (.agg (readC 0 u0 (.slice none 0 0) n true)) ∧ Below w.heap.size w w') : RdP s w (.error q) e w' := by
  subst hn
  exact ⟨k.2, hq, k.1⟩
theorem atomd_any {s : ByteArray} {l : List UInt8} (ch : List UInt8 → Except (List UInt8) (RT × List UInt8)) (h : Suf s l) (hne : l ≠ []) (hs : s.size ≤ 1000) (hst : Stp ch) (hch : ∀ q, q.length < l.length → Suf s q → CHD s q (ch q)) (w : World) :
    Calls Tryd.prog 68 #[.string s, .int .i64 ((s.size - l.length : Nat) : Int)] w (RdP s w (atomF ch l)) := by
  cases l with
  | nil => exact absurd rfl hne
  | cons c r =>
    have hlt := h.lt
    have hg0 := h.get hlt
    have hn := h.next
    have hs2 : s.size ≤ 140737488355328 := by omega
    have hcl := @clsd_any s r
    obtain ⟨p0, hp0⟩ : ∃ p0, s.size - (c :: r).length = p0 := ⟨_, rfl⟩
    have hp : p0 < s.size := by rw [← hp0]; exact hlt
    have hg : ∀ h, s[p0]'h = c := by intro h; subst hp0; exact hg0
    have hn2 : p0 + 1 = s.size - r.length := by rw [← hp0]; exact hn
    have hn3 : ((s.size - r.length : Nat) : Int) = (p0 : Int) + 1 := by omega
    unfold atomF
    by_cases h1 : c = 40
    · subst h1
      have e40 : (((40 : UInt8).toNat : Int) == 40) = true := rfl
      rw [if_pos (by rfl), List.tail_cons, hp0]
      have hC := (hch r (by simp) h.tl).out
      rw [hn3] at hC
      cases hc : ch r with
      | error q =>
        rw [hc] at hC
        exact (at_par_e hs2 hp hg e40 (s.size - q.length) (Suf s q) (Lib.hid fun w => (hC w).mono fun e w' k => ⟨⟨k.2.2, k.2.1⟩, k.1⟩)).mono fun e w' k => .err k.1.2 rfl ⟨k.1.1, k.2⟩
      | ok v =>
        obtain ⟨t, q⟩ := v
        rw [hc] at hC
        have HC : Hid (∀ w, Calls Tryd.prog 38 #[.string s, .int .i64 ((p0 : Int) + 1)] w fun e w' => ((∃ k u p n c, e = .returned (.agg (readC k u (.slice p n c) ((s.size - q.length : Nat) : Int) false)) ∧ RV (fun b => w.heap.size ≤ b ∧ b < w'.heap.size) w' t (.agg (nodeC k u (.slice p n c)))) ∧ Suf s q) ∧ Below w.heap.size w w') := Lib.hid fun w => (hC w).mono fun e w' k => ⟨⟨k.2.2, k.2.1⟩, k.1⟩
        rcases hst _ _ _ hc with rfl | ⟨q', rfl⟩
        · exact (at_par_end hs2 hp hg e40 (s.size - ([] : List UInt8).length) (Suf s []) t HC (by simp)).mono fun e w' k => .err k.1.2 rfl ⟨k.1.1, k.2⟩
        · by_cases hq : Suf s (41 :: q')
          · have hlq := hq.lt
            exact (at_par_ok hs2 hp hg e40 (s.size - (41 :: q').length) (Suf s (41 :: q')) t HC hlq (fun _ => hq.get hlq)).mono fun e w' k => by
              obtain ⟨⟨⟨k', u, p, n, c, he, hv⟩, _⟩, hb⟩ := k
              have hnx := hq.next
              exact ⟨hb, hq.tl, k', u, p, n, c, by rw [he]; congr 3; omega, hv⟩
          · exact (at_par_end hs2 hp hg e40 s.size False t (Lib.hid fun w => (hC w).mono fun e w' k => absurd k.2.1 hq) (Nat.le_refl _)).mono fun e w' k => k.1.2.elim
    · have e1 := u8f 40 (by omega) h1
      rw [if_neg (by simpa using h1)]
      by_cases h2 : c = 91
      · subst h2
        have e91 : (((91 : UInt8).toNat : Int) == 91) = true := rfl
        have hk := hcl h hs
        have hsf := csl_suf h hs
        rw [hp0] at hk ⊢
        rw [if_pos (by rfl)]
        cases hc : csl (91 :: r) with
        | error q =>
          rw [hc] at hk hsf
          exact (at_cls_e hs2 hp hg e1 e91 (fun _ => false) (s.size - q.length) (Lib.hid fun w => (hk w).mono fun e w' k => ⟨k.2, k.1⟩)).mono fun e w' k => .err hsf rfl k
        | ok v =>
          obtain ⟨x, t⟩ := v
          rw [hc] at hk hsf
          obtain ⟨f, hf⟩ := csl_f hc
          have hu : csu (91 :: r) t = wf f := by unfold csu; rw [hf]; rfl
          exact (at_cls_o hs2 hp hg e1 e91 f (csu (91 :: r) t) (s.size - t.length) (Lib.hid fun w => by rw [hu]; exact rset_any f w) (Lib.hid fun w => (hk w).mono fun e w' k => ⟨k.2 f hf, k.1⟩)).mono fun e w' k => .set hsf.1 rfl k
      · have e2 := u8f 91 (by omega) h2
        rw [if_neg (by simpa using h2)]
        by_cases h3 : c = 46
        · subst h3
          rw [if_pos (by rfl), List.tail_cons, hp0]
          exact (at_dot hs2 hp hg e1 e2 rfl (wf inlF) (Lib.hid dot_any)).mono fun e w' k => .set h.tl hn3.symm k
        · have e3 := u8f 46 (by omega) h3
          rw [if_neg (by simpa using h3), hp0]
          by_cases h4 : c = 92
          · subst h4
            cases r with
            | nil =>
              exact (at_esc_end hs2 hp hg e1 e2 e3 rfl (by simp at hn2; omega)).mono fun e w' k => .err (q := []) h.tl (by simp at hn2 ⊢; omega) k
            | cons d q =>
              have hlt1 := h.tl.lt
              have hgd0 := h.tl.get hlt1
              have hnd := h.tl.next
              have hp1 : p0 + 1 < s.size := by rw [hn2]; exact hlt1
              have hgd : ∀ h, s[p0 + 1]'h = d := by intro h; have e := hgd0; simp only [← hn2] at e; exact e
              have hq : ((s.size - q.length : Nat) : Int) = (p0 : Int) + 2 := by omega
              by_cases d1 : d = 110
              · subst d1
                exact (at_esc_n hs2 hp hg e1 e2 e3 rfl hp1 hgd rfl _ (Lib.hid (one87_any 10))).mono fun e w' k => .set h.tl.tl hq.symm k
              · have f1 := u8f 110 (by omega) d1
                by_cases d2 : d = 116
                · subst d2
                  exact (at_esc_t hs2 hp hg e1 e2 e3 rfl hp1 hgd f1 rfl _ (Lib.hid (one87_any 9))).mono fun e w' k => .set h.tl.tl hq.symm k
                · have f2 := u8f 116 (by omega) d2
                  by_cases d3 : d = 114
                  · subst d3
                    exact (at_esc_r hs2 hp hg e1 e2 e3 rfl hp1 hgd f1 f2 rfl _ (Lib.hid (one87_any 13))).mono fun e w' k => .set h.tl.tl hq.symm k
                  · have f3 := u8f 114 (by omega) d3
                    have hS := Lib.hid (sign5_any d)
                    have e5 : ltr d = none := by simp [ltr, d1, d2, d3]
                    cases hsg : sgs.contains d with
                    | true =>
                      rw [hsg] at hS
                      rw [show sgl (92 :: d :: q) = .ok (d, q) by simp only [sgl, e5, hsg, if_true]]
                      exact (at_esc_s hs2 hp hg e1 e2 e3 rfl hp1 hgd f1 f2 f3 hS _ (Lib.hid (one87_any d))).mono fun e w' k => .set h.tl.tl hq.symm k
                    | false =>
                      rw [hsg] at hS
                      rw [show sgl (92 :: d :: q) = .error (d :: q) by simp only [sgl, e5, hsg]; rfl]
                      exact (at_esc_e hs2 hp hg e1 e2 e3 rfl hp1 hgd f1 f2 f3 hS).mono fun e w' k => .err h.tl hn3.symm k
          · have e4 := u8f 92 (by omega) h4
            have hS := Lib.hid (sign5_any c)
            have es : sgl (c :: r) = if sgs.contains c then .error (c :: r) else .ok (c, r) := by
              unfold sgl
              split
              · simp_all
              · simp_all
              · simp_all
              · rename_i c' q' _ _ heq
                simp only [List.cons.injEq] at heq
                obtain ⟨rfl, rfl⟩ := heq
                rfl
            rw [es]
            cases hsg : sgs.contains c with
            | true =>
              rw [hsg] at hS
              exact (at_sign hs2 hp hg e1 e2 e3 e4 hS).mono fun e w' k => .err h (by rw [hp0]) k
            | false =>
              rw [hsg] at hS
              exact (at_plain hs2 hp hg e1 e2 e3 e4 hS _ (Lib.hid (one87_any c))).mono fun e w' k => .set h.tl hn3.symm k
end Go.Proofs.YtmjojahkbjlcdaaDoor
end
section
namespace Go.Proofs.YtmjojahkbjlcdaaDoor
set_option linter.unusedSimpArgs false
set_option linter.unusedVariables false
set_option maxRecDepth 100000
open Go.RowKit

/- Where what stands in brackets ends. -/
def Stp2 (q : List UInt8) : Prop := q = [] ∨ ∃ c r, q = c :: r ∧ (c = 124 ∨ c = 41)
theorem thgs_stop (ch : List UInt8 → Except (List UInt8) (RT × List UInt8)) : ∀ (k : Nat) {ts ts' : List RT} {l q : List UInt8}, thgs ch k ts l = .ok (ts', q) → Stp2 q
  | 0, ts, ts', l, q, h => by simp [thgs] at h
  | k + 1, ts, ts', [], q, h => by
    rw [thgs] at h
    cases h; exact .inl rfl
  | k + 1, ts, ts', c :: r, q, h => by
    rw [thgs] at h
    split at h
    · rename_i hc
      cases h
      refine .inr ⟨c, r, rfl, ?_⟩
      simpa using hc
    · split at h
      · cases h
      · exact thgs_stop ch k h
theorem rowF_stop {ch : List UInt8 → Except (List UInt8) (RT × List UInt8)} {l q : List UInt8} {t : RT} (h : rowF ch l = .ok (t, q)) : Stp2 q := by
  unfold rowF at h
  split at h
  · cases h
  · rename_i ts q' ht
    cases h
    exact thgs_stop ch _ ht
theorem alts_stop (ch : List UInt8 → Except (List UInt8) (RT × List UInt8)) : ∀ (k : Nat) {ts ts' : List RT} {l q : List UInt8}, Stp2 l → alts ch k ts l = .ok (ts', q) → q = [] ∨ ∃ q', q = 41 :: q'
  | 0, ts, ts', l, q, _, h => by simp [alts] at h
  | k + 1, ts, ts', l, q, hl, h => by
    rw [alts] at h
    by_cases hc : l.head? = some 124
    · rw [if_pos hc] at h
      cases ht : rowF ch l.tail with
      | error e => rw [ht] at h; cases h
      | ok v =>
        obtain ⟨t, r⟩ := v
        rw [ht] at h
        exact alts_stop ch k (rowF_stop ht) h
    · rw [if_neg hc] at h
      cases h
      rcases hl with rfl | ⟨c, r, rfl, hl⟩
      · exact .inl rfl
      · rcases hl with rfl | rfl
        · simp at hc
        · exact .inr ⟨r, rfl⟩
theorem choiceF_stop (ch : List UInt8 → Except (List UInt8) (RT × List UInt8)) : Stp (choiceF ch) := fun l t q h => by
  unfold choiceF at h
  cases hc : rowF ch l with
  | error e => rw [hc] at h; cases h
  | ok v =>
    obtain ⟨t', r⟩ := v
    rw [hc] at h
    simp only at h
    cases hd : alts ch (r.length + 1) [t'] r with
    | error e => rw [hd] at h; cases h
    | ok v2 =>
      obtain ⟨ts, r'⟩ := v2
      rw [hd] at h
      cases h
      exact alts_stop ch _ (rowF_stop hc) hd
theorem chc_stop : ∀ k, Stp (chc k)
  | 0 => fun l t q h => by simp [chc] at h
  | k + 1 => choiceF_stop (chc k)
end Go.Proofs.YtmjojahkbjlcdaaDoor
end
section
namespace Go.Proofs.YtmjojahkbjlcdaaDoor
set_option linter.unusedSimpArgs false
set_option linter.unusedVariables false
set_option maxRecDepth 100000
open Go.RowKit

/- Patterns that lie in a row of one's own, beside a box that is written. -/
/-- The patterns ts lie in the row of the slice sl; the block x holds nothing of them. -/
def Thx (x base : Nat) (ts : List RT) (sl : Value) (w : World) : Prop :=
  ∃ xs : List (Array Value), xs.length = ts.length ∧ (∀ y ∈ xs, y.size = 6) ∧ (∀ i (h : i < ts.length) (h' : i < xs.length), RV (fun b => base ≤ b ∧ b < w.heap.size ∧ some b ≠ sl.ownBlock ∧ b ≠ x) w ts[i] (.agg xs[i])) ∧ w.ownsRow base 27 6 sl ts.length (flat xs) ∧ sl.ownBlock ≠ some x
theorem Thx.nil (x base : Nat) (w : World) : Thx x base [] (.slice none 0 0) w := ⟨[], rfl, by simp, by simp, ⟨rfl, .inl ⟨rfl, rfl⟩⟩, by simp [Value.ownBlock]⟩
theorem Thx.keep {x base : Nat} {ts : List RT} {sl : Value} {w w' : World} (h : Thx x base ts sl w) (hg : w.grownBy w' (some x)) : Thx x base ts sl w' := by
  obtain ⟨xs, h1, h2, h3, h4, h5⟩ := h
  refine ⟨xs, h1, h2, fun i hi hi' => (h3 i hi hi').mono (fun b hb => ⟨hb.1, Nat.lt_of_lt_of_le hb.2.1 hg.size, hb.2.2⟩) (fun b hb hlt => hg.block b hlt (fun e => hb.2.2.2 (Option.some.inj e))), ?_, h5⟩
  refine World.ownsRow.kept h4 hg ?_
  rcases h4.2 with ⟨rfl, _⟩ | ⟨g, cap, cur, rfl, hb, _⟩
  · simp [Value.ownBlock]
  · right
    intro hh
    exact h5 (by rw [hh])
theorem Thx.up {x base : Nat} {ts : List RT} {sl : Value} {w w' : World} (h : Thx x base ts sl w) (hb : Below w.heap.size w w') : Thx x base ts sl w' :=
  h.keep ⟨hb.os, hb.tape, hb.output, hb.size, fun j hj _ => hb.block j hj⟩
theorem Thx.row {x base : Nat} {ts : List RT} {sl : Value} {w : World} (h : Thx x base ts sl w) (cs : Array Value) : Thx x base ts sl (w.setRow x cs) :=
  h.keep ⟨rfl, rfl, rfl, by simp, fun j _ hne => setRow_other w x j cs (fun e => hne (by rw [e]))⟩
theorem Thx.app {x base lo : Nat} {ts : List RT} {sl sl' : Value} {w w1 w2 : World} {t : RT} {y : Array Value} {xs : List (Array Value)} {o : Obj} (hx6 : y.size = 6)
    (h1 : xs.length = ts.length) (h2 : ∀ y ∈ xs, y.size = 6) (h3 : ∀ i (h : i < ts.length) (h' : i < xs.length), RV (fun b => base ≤ b ∧ b < w.heap.size ∧ some b ≠ sl.ownBlock ∧ b ≠ x) w ts[i] (.agg xs[i]))
    (hw1 : w1 = w.alloc o) (hbl : base ≤ lo) (hlo : ∀ g, sl.ownBlock = some g → g < lo) (hxl : x < lo) (hxs : sl.ownBlock ≠ some x) (hlw : lo ≤ w.heap.size) (ht : RV (fun b => lo ≤ b ∧ b < w.heap.size) w t (.agg y))
    (hown : w2.ownsRow base 27 6 sl' (ts.length + 1) (flat xs ++ y.toList)) (hg : w1.grownBy w2 sl.ownBlock) (hat : sl'.ownBlock = sl.ownBlock ∨ sl'.ownBlock = some w1.heap.size) : Thx x base (ts ++ [t]) sl' w2 := by
  have hsz : w1.heap.size = w.heap.size + 1 := by subst hw1; simp
  have hkeep : ∀ b, b < w.heap.size → some b ≠ sl.ownBlock → w2.heap[b]? = w.heap[b]? := fun b hb hne => by
    rw [hg.block b (by omega) (fun e => hne e), hw1, heap_alloc_old w _ hb]
  have hD : ∀ b, b < w.heap.size → some b ≠ sl.ownBlock → some b ≠ sl'.ownBlock := fun b hb hne e => by
    rcases hat with h | h
    · rw [h] at e; exact hne e
    · rw [h] at e; cases e; omega
  refine ⟨xs ++ [y], by simp [h1], fun z hz => ?_, fun i hi hi' => ?_, by rw [flat_app]; simpa using hown, ?_⟩
  · rcases List.mem_append.1 hz with hz | hz
    · exact h2 z hz
    · simp at hz; subst hz; exact hx6
  · by_cases hlt : i < ts.length
    · rw [List.getElem_append_left hlt, List.getElem_append_left (by omega)]
      exact (h3 i hlt (by omega)).mono (fun b hb => ⟨hb.1, by have := hg.size; omega, hD b hb.2.1 hb.2.2.1, hb.2.2.2⟩) (fun b hb hlt => hkeep b hlt hb.2.2.1)
    · have hi2 : i = ts.length := by simp at hi; omega
      subst hi2
      have e1 : (ts ++ [t])[ts.length]'hi = t := by simp
      have e2 : (xs ++ [y])[ts.length]'hi' = y := by
        rw [List.getElem_append_right (by omega)]; simp [h1]
      rw [e1, e2]
      have hno : ∀ b, lo ≤ b → some b ≠ sl.ownBlock := fun b hb e => by have := hlo b e.symm; omega
      exact ht.mono (fun b hb => ⟨by omega, by have := hg.size; omega, hD b hb.2 (hno b hb.1), by omega⟩) (fun b hb hlt => hkeep b hlt (hno b hb.1))
  · rcases hat with h | h
    · rw [h]; exact hxs
    · rw [h]; intro e; cases e; omega
theorem Thx.node {x base : Nat} {ts : List RT} {sl : Value} {w : World} (h : Thx x base ts sl w) (hn : ts ≠ []) (k : Int) (u : Nat → Int) :
    ∃ g cap, sl = .slice (some ⟨g, 0, none⟩) ts.length cap ∧ base ≤ g ∧ g < w.heap.size ∧ g ≠ x ∧ RV (fun b => base ≤ b ∧ b < w.heap.size ∧ b ≠ x) w (.mk k u ts) (.agg (nodeC k u sl)) := by
  obtain ⟨xs, h1, h2, h3, h4, h5⟩ := h
  have hown := h4
  rcases h4.2 with ⟨_, h0⟩ | ⟨g, cap, cur, rfl, hb, hg, _⟩
  · exact absurd (List.length_eq_zero_iff.1 h0) hn
  · have hgs := (Array.getElem?_eq_some_iff.1 hg).1
    have hgx : g ≠ x := fun e => h5 (by simp [Value.ownBlock, e])
    refine ⟨g, cap, rfl, hb, hgs, hgx, RV.node k u ts g 0 cap (fun i => xs.getD i #[]) ⟨hb, hgs, hgx⟩ hn (fun i hi => ?_) (fun i hi j hj => ?_) (fun j => by unfold World.frozen?; simp [hg])⟩
    · have hi' : i < xs.length := by omega
      have e : xs.getD i #[] = xs[i] := by simp [List.getD, hi']
      rw [e]
      exact (h3 i hi hi').mono (fun b hb => ⟨hb.1, hb.2.1, hb.2.2.2⟩) (fun b hb hlt => rfl)
    · have hi' : i < xs.length := by omega
      have e : xs.getD i #[] = xs[i] := by simp [List.getD, hi']
      have h6 := h2 xs[i] (List.getElem_mem hi')
      have hf := flat_get xs h2 i hi' j hj
      have hj' : j < (xs[i]).size := by omega
      rw [Array.getElem?_eq_getElem hj'] at hf
      refine ⟨(xs[i])[j], by rw [e]; exact Array.getElem?_eq_getElem hj', ?_⟩
      have := World.ownsRow.cells hown rfl _ _ hf
      rwa [Addr.add_mid] at this
theorem Thx.one {x base : Nat} {t : RT} {sl : Value} {w : World} (h : Thx x base [t] sl w) : ∃ g cap k u p n c, sl = .slice (some ⟨g, 0, none⟩) 1 cap ∧ base ≤ g ∧ g < w.heap.size ∧ RV (fun b => base ≤ b ∧ b < w.heap.size ∧ b ≠ x) w t (.agg (nodeC k u (.slice p n c))) ∧
    (∀ j y, (nodeC k u (.slice p n c))[j]? = some y → w.cell? ⟨g, j, none⟩ = some y) := by
  obtain ⟨g, cap, rfl, h2, h3, hgx, h4⟩ := h.node (by simp) 0 u0
  cases h4 with
  | node k u ps b o c xs hD hn hx hc =>
    obtain ⟨k, u, p, n, c', hf⟩ := (hx 0 (by simp)).form
    have hxs : xs 0 = nodeC k u (.slice p n c') := by injection hf
    refine ⟨g, cap, k, u, p, n, c', rfl, h2, h3, hxs ▸ hx 0 (by simp), fun j y hy => ?_⟩
    have hj : j < 6 := (Array.getElem?_eq_some_iff.1 hy).1
    obtain ⟨y', h5, h6⟩ := hc 0 (by simp) j hj
    rw [hxs, hy] at h5
    cases h5
    simpa using h6
theorem Thx.single {x base : Nat} {w : World} {t : RT} {k : Int} {u : Nat → Int} {p : Option Addr} {n c : Nat} (hb : base ≤ w.heap.size) (hx : x < w.heap.size) (hv : RV (fun b => base ≤ b ∧ b < w.heap.size ∧ b ≠ x) w t (.agg (nodeC k u (.slice p n c)))) :
    Thx x base [t] (.slice (some ⟨w.heap.size, 0, none⟩) 1 1) (w.alloc (.cells (nodeC k u (.slice p n c)) 27)) := by
  have hsz : (w.alloc (.cells (nodeC k u (.slice p n c)) 27)).heap.size = w.heap.size + 1 := by simp
  refine ⟨[nodeC k u (.slice p n c)], rfl, by simp [nodeC], fun i hi hi' => ?_, ?_, by simp [Value.ownBlock]; omega⟩
  · have h0 : i = 0 := by simp at hi; omega
    subst h0
    exact hv.mono (fun b hb => ⟨hb.1, by omega, by simp [Value.ownBlock]; omega, hb.2.2⟩) (fun b hb hlt => heap_alloc_old w _ hlt)
  · refine ⟨rfl, .inr ⟨w.heap.size, 1, nodeC k u (.slice p n c), rfl, hb, heap_alloc_last w _, by simp, by unfold maxLen; omega, rfl, rfl⟩⟩
end Go.Proofs.YtmjojahkbjlcdaaDoor
end
