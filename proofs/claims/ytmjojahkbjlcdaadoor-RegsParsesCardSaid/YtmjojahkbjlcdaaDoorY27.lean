/- Texts of package regs, one behind the other. -/
import Derived.Test.YtmjojahkbjlcdaaDoorProg
import Derived.Test.YtmjojahkbjlcdaaDoorY3
import Derived.Test.YtmjojahkbjlcdaaDoorY4
import Derived.WalkKit
import Derived.WalkLawsBesides
import Derived.WalkSpells
import Derived.Outline
import Derived.Lib.Walk
import Derived.Lib.Hide
import Derived.RegionTactic
import Derived.LoopTactic
import Derived.Below
import Derived.IntWalk
import Derived.Deep.QuietTactic
import Derived.BigQuiet
import Derived.Test.YtmjojahkbjlcdaaDoorG29
import Derived.Test.YtmjojahkbjlcdaaDoorY13
import Derived.Test.YtmjojahkbjlcdaaDoorY14
import Derived.Test.YtmjojahkbjlcdaaDoorY12
section
/- Package regs: the reader's small steps: what comes next. -/
namespace Go.Proofs.YtmjojahkbjlcdaaDoor
set_option linter.unusedSimpArgs false
set_option linter.unusedVariables false
set_option maxRecDepth 100000
open Go.RowKit

/-- A set's letters are those of its bits. -/
def okU (u : Nat → Int) : Prop := ∀ i, i < 4 → u i = wf (fOf u) i
mutual
def okT : RT → Prop
  | .mk k u ps => (k = 2 → okU u) ∧ okL ps
def okL : List RT → Prop
  | [] => True
  | t :: ts => okT t ∧ okL ts
end
theorem okL_get : ∀ (ts : List RT) (i : Nat) (h : i < ts.length), okL ts → okT ts[i]
  | t :: ts, 0, h, g => by rw [okL] at g; exact g.1
  | t :: ts, i + 1, h, g => by rw [okL] at g; exact okL_get ts i (by simpa using h) g.2
theorem mayL_get : ∀ (ts : List RT) (i : Nat) (h : i < ts.length), mayL ts = true → mayB ts[i] = true
  | t :: ts, 0, h, g => by rw [mayL, Bool.and_eq_true] at g; exact g.1
  | t :: ts, i + 1, h, g => by rw [mayL, Bool.and_eq_true] at g; exact mayL_get ts i (by simpa using h) g.2
theorem okU_vv {u : Nat → Int} (h : okU u) : (.agg #[.int .u64 (u 0), .int .u64 (u 1), .int .u64 (u 2), .int .u64 (u 3)] : Value) = vv (wf (fOf u)) := by
  simp only [vv]
  rw [h 0 (by omega), h 1 (by omega), h 2 (by omega), h 3 (by omega)]
def WP (B b : Nat) (D : Nat → Prop) (m bt : List UInt8) (k : Int) (u : Nat → Int) (ps : List RT) (v : Value) : Prop := Hid (∀ w, Bd B b m w → B ≤ w.heap.size → RV D w (.mk k u ps) v → Calls Tryd.prog 52 #[.pointer (some ⟨b, 0, none⟩), v, .string (bs bt)] w fun e w' => e = .returned (.tuple #[]) ∧ Wk B b (m ++ wrL k bt true ps) w w')
set_option maxHeartbeats 4000000 in
theorem write_0 {D : Nat → Prop} {B b : Nat} {m : List UInt8} {u : Nat → Int} {ps : List RT} {v : Value} {w : World} (hbd : Bd B b m w) (hB : B ≤ w.heap.size) (hlen : m.length < 300000) (h : RV D w (.mk 0 u ps) v) :
    Calls Tryd.prog 39 #[.pointer (some ⟨b, 0, none⟩), v] w fun e w' => e = .returned (.tuple #[]) ∧ Wk B b (m ++ [91, 93]) w w' := by
  obtain ⟨p, c, rfl, hp⟩ := h.parts
  have hz := zero27l
  clear h hp
  have S0 := (Sb.start w).alloc (.cells #[.int .i64 0, .int .u64 (u 0), .int .u64 (u 1), .int .u64 (u 2), .int .u64 (u 3), .slice p ps.length c] 27)
  have HWk := Lib.hid ((Wk.refl hbd).up hB S0.1)
  have HB : Hid (∀ x, Wk B b m w x → B ≤ x.heap.size → Calls Tryd.prog 50 #[.pointer (some ⟨b, 0, none⟩), .string (bs [91, 93])] x fun e w' => e = .returned (.tuple #[.int .i64 (bs [91, 93]).size, .nilIface]) ∧ Wk B b (m ++ [91, 93]) w w') := Lib.hid fun x h h' => Wk.str h [91, 93] (by simp; omega) h'
  clear S0 hbd hlen
  go_enter Tryd.func39, Tryd.ntmps39
  go_wp2_with fail
  refine (HB.out _ HWk.out HWk.out.B).mono ?_
  rintro _ x1 ⟨rfl, hk⟩
  have H1 := Lib.hid hk
  clear hk
  go_wp2
  go_end0
  exact ⟨rfl, H1.out⟩
set_option maxHeartbeats 4000000 in
theorem write_1 {D : Nat → Prop} {B b : Nat} {m : List UInt8} {u : Nat → Int} {ps : List RT} {v : Value} {w : World} (hbd : Bd B b m w) (hB : B ≤ w.heap.size) (h : RV D w (.mk 1 u ps) v) :
    Calls Tryd.prog 39 #[.pointer (some ⟨b, 0, none⟩), v] w fun e w' => e = .returned (.tuple #[]) ∧ Wk B b (m ++ []) w w' := by
  obtain ⟨p, c, rfl, hp⟩ := h.parts
  have hz := zero27l
  clear h hp
  have S0 := (Sb.start w).alloc (.cells #[.int .i64 1, .int .u64 (u 0), .int .u64 (u 1), .int .u64 (u 2), .int .u64 (u 3), .slice p ps.length c] 27)
  have HWk := Lib.hid ((Wk.refl hbd).up hB S0.1)
  rw [List.append_nil]
  clear S0 hbd
  go_enter Tryd.func39, Tryd.ntmps39
  go_wp2
  go_end0
  exact ⟨rfl, HWk.out⟩
set_option maxHeartbeats 4000000 in
theorem write_2 {D : Nat → Prop} {B b : Nat} {m : List UInt8} {u : Nat → Int} {ps : List RT} {v : Value} {w : World} (hu : okU u) (hbd : Bd B b m w) (hB : B ≤ w.heap.size) (hlen : m.length < 300000) (h : RV D w (.mk 2 u ps) v) :
    Calls Tryd.prog 39 #[.pointer (some ⟨b, 0, none⟩), v] w fun e w' => e = .returned (.tuple #[]) ∧ Wk B b (m ++ wset (fOf u)) w w' := by
  obtain ⟨p, c, rfl, hp⟩ := h.parts
  have hz := zero27l
  clear h hp
  have S0 := (Sb.start w).alloc (.cells #[.int .i64 2, .int .u64 (u 0), .int .u64 (u 1), .int .u64 (u 2), .int .u64 (u 3), .slice p ps.length c] 27)
  have HWk := Lib.hid ((Wk.refl hbd).up hB S0.1)
  have HB : Hid (∀ x, Wk B b m w x → Calls Tryd.prog 51 #[.pointer (some ⟨b, 0, none⟩), .agg #[.int .u64 (u 0), .int .u64 (u 1), .int .u64 (u 2), .int .u64 (u 3)]] x fun e w' => e = .returned (.tuple #[]) ∧ Wk B b (m ++ wset (fOf u)) w w') := Lib.hid fun x h => by
    rw [okU_vv hu]; exact wset_any (fOf u) h (by omega) hB
  clear S0 hbd hlen hu
  go_enter Tryd.func39, Tryd.ntmps39
  go_wp2_with fail
  refine (HB.out _ HWk.out).mono ?_
  rintro _ x1 ⟨rfl, hk⟩
  have H1 := Lib.hid hk
  clear hk
  go_wp2
  go_end0
  exact ⟨rfl, H1.out⟩
set_option maxHeartbeats 4000000 in
theorem write_3 {D : Nat → Prop} {B b : Nat} {m : List UInt8} {u : Nat → Int} {ps : List RT} {v : Value} {w : World} (hDB : ∀ b, D b → b < B) (hbd : Bd B b m w) (hB : B ≤ w.heap.size) (h : RV D w (.mk 3 u ps) v) (hW : WP B b D m [] 3 u ps v) :
    Calls Tryd.prog 39 #[.pointer (some ⟨b, 0, none⟩), v] w fun e w' => e = .returned (.tuple #[]) ∧ Wk B b (m ++ wrL 3 [] true ps) w w' := by
  obtain ⟨p, c, rfl, hp⟩ := h.parts
  have hz := zero27l
  have S0 := (Sb.start w).alloc (.cells #[.int .i64 3, .int .u64 (u 0), .int .u64 (u 1), .int .u64 (u 2), .int .u64 (u 3), .slice p ps.length c] 27)
  have HWk := Lib.hid ((Wk.refl hbd).up hB S0.1)
  have HV := Lib.hid (RV.mono (fun b h => h) (fun z hz hlt => S0.1.block z hlt) h)
  clear S0 hbd h hp
  go_enter Tryd.func39, Tryd.ntmps39
  go_wp2_with fail
  refine (hW.out _ HWk.out.1 HWk.out.B HV.out).mono ?_
  rintro _ x1 ⟨rfl, hk⟩
  have H1 := Lib.hid (HWk.out.trans hk)
  clear hk
  go_wp2
  go_end0
  exact ⟨rfl, H1.out⟩

set_option maxHeartbeats 4000000 in
theorem write_4 {D : Nat → Prop} {B b : Nat} {m : List UInt8} {u : Nat → Int} {ps : List RT} {v : Value} {w : World} (hDB : ∀ b, D b → b < B) (hbd : Bd B b m w) (hB : B ≤ w.heap.size) (h : RV D w (.mk 4 u ps) v) (hW : WP B b D m [124] 4 u ps v) :
    Calls Tryd.prog 39 #[.pointer (some ⟨b, 0, none⟩), v] w fun e w' => e = .returned (.tuple #[]) ∧ Wk B b (m ++ wrL 4 [124] true ps) w w' := by
  obtain ⟨p, c, rfl, hp⟩ := h.parts
  have hz := zero27l
  have S0 := (Sb.start w).alloc (.cells #[.int .i64 4, .int .u64 (u 0), .int .u64 (u 1), .int .u64 (u 2), .int .u64 (u 3), .slice p ps.length c] 27)
  have HWk := Lib.hid ((Wk.refl hbd).up hB S0.1)
  have HV := Lib.hid (RV.mono (fun b h => h) (fun z hz hlt => S0.1.block z hlt) h)
  clear S0 hbd h hp
  go_enter Tryd.func39, Tryd.ntmps39
  go_wp2_with fail
  refine (hW.out _ HWk.out.1 HWk.out.B HV.out).mono ?_
  rintro _ x1 ⟨rfl, hk⟩
  have H1 := Lib.hid (HWk.out.trans hk)
  clear hk
  go_wp2
  go_end0
  exact ⟨rfl, H1.out⟩

set_option maxHeartbeats 4000000 in
theorem write_5 {D : Nat → Prop} {B b : Nat} {m : List UInt8} {u : Nat → Int} {ps : List RT} {v : Value} {w : World} (hDB : ∀ b, D b → b < B) (hbd : Bd B b m w) (hB : B ≤ w.heap.size) (hlen : (m ++ wrL 5 [] true ps).length < 300000) (h : RV D w (.mk 5 u ps) v) (hW : WP B b D m [] 5 u ps v) :
    Calls Tryd.prog 39 #[.pointer (some ⟨b, 0, none⟩), v] w fun e w' => e = .returned (.tuple #[]) ∧ Wk B b (m ++ wrL 5 [] true ps ++ [42]) w w' := by
  obtain ⟨p, c, rfl, hp⟩ := h.parts
  have hz := zero27l
  have S0 := (Sb.start w).alloc (.cells #[.int .i64 5, .int .u64 (u 0), .int .u64 (u 1), .int .u64 (u 2), .int .u64 (u 3), .slice p ps.length c] 27)
  have HWk := Lib.hid ((Wk.refl hbd).up hB S0.1)
  have HV := Lib.hid (RV.mono (fun b h => h) (fun z hz hlt => S0.1.block z hlt) h)
  have HR0 := Lib.hid S0.heap
  have hbw := hbd.lt
  have HB := wb_hid B b (m ++ wrL 5 [] true ps) w 42 (by omega) hB
  clear S0 hbd h hp hlen
  go_enter Tryd.func39, Tryd.ntmps39
  go_wp2_with fail
  refine (hW.out _ HWk.out.1 HWk.out.B HV.out).mono ?_
  rintro _ x1 ⟨rfl, hk⟩
  have H1 := Lib.hid (HWk.out.trans hk)
  have g0 : x1.cell? ⟨w.heap.size, 0, none⟩ = some (.int .i64 5) := cell_of_row x1 w.heap.size 0 _ 27 (0, 0) (hk.2.2 w.heap.size _ HR0.out (by simp; omega) (by intro c fz e; cases e))
  clear hk
  go_wp2_with fail
  refine (HB.out _ H1.out).mono ?_
  rintro _ x2 ⟨rfl, hk⟩
  have H2 := Lib.hid hk
  clear hk
  go_wp2
  go_end0
  exact ⟨rfl, H2.out⟩

set_option maxHeartbeats 4000000 in
theorem write_6 {D : Nat → Prop} {B b : Nat} {m : List UInt8} {u : Nat → Int} {ps : List RT} {v : Value} {w : World} (hDB : ∀ b, D b → b < B) (hbd : Bd B b m w) (hB : B ≤ w.heap.size) (hlen : (m ++ wrL 6 [] true ps).length < 300000) (h : RV D w (.mk 6 u ps) v) (hW : WP B b D m [] 6 u ps v) :
    Calls Tryd.prog 39 #[.pointer (some ⟨b, 0, none⟩), v] w fun e w' => e = .returned (.tuple #[]) ∧ Wk B b (m ++ wrL 6 [] true ps ++ [43]) w w' := by
  obtain ⟨p, c, rfl, hp⟩ := h.parts
  have hz := zero27l
  have S0 := (Sb.start w).alloc (.cells #[.int .i64 6, .int .u64 (u 0), .int .u64 (u 1), .int .u64 (u 2), .int .u64 (u 3), .slice p ps.length c] 27)
  have HWk := Lib.hid ((Wk.refl hbd).up hB S0.1)
  have HV := Lib.hid (RV.mono (fun b h => h) (fun z hz hlt => S0.1.block z hlt) h)
  have HR0 := Lib.hid S0.heap
  have hbw := hbd.lt
  have HB := wb_hid B b (m ++ wrL 6 [] true ps) w 43 (by omega) hB
  clear S0 hbd h hp hlen
  go_enter Tryd.func39, Tryd.ntmps39
  go_wp2_with fail
  refine (hW.out _ HWk.out.1 HWk.out.B HV.out).mono ?_
  rintro _ x1 ⟨rfl, hk⟩
  have H1 := Lib.hid (HWk.out.trans hk)
  have g0 : x1.cell? ⟨w.heap.size, 0, none⟩ = some (.int .i64 6) := cell_of_row x1 w.heap.size 0 _ 27 (0, 0) (hk.2.2 w.heap.size _ HR0.out (by simp; omega) (by intro c fz e; cases e))
  clear hk
  go_wp2_with fail
  refine (HB.out _ H1.out).mono ?_
  rintro _ x2 ⟨rfl, hk⟩
  have H2 := Lib.hid hk
  clear hk
  go_wp2
  go_end0
  exact ⟨rfl, H2.out⟩

set_option maxHeartbeats 4000000 in
theorem write_7 {D : Nat → Prop} {B b : Nat} {m : List UInt8} {u : Nat → Int} {ps : List RT} {v : Value} {w : World} (hDB : ∀ b, D b → b < B) (hbd : Bd B b m w) (hB : B ≤ w.heap.size) (hlen : (m ++ wrL 7 [] true ps).length < 300000) (h : RV D w (.mk 7 u ps) v) (hW : WP B b D m [] 7 u ps v) :
    Calls Tryd.prog 39 #[.pointer (some ⟨b, 0, none⟩), v] w fun e w' => e = .returned (.tuple #[]) ∧ Wk B b (m ++ wrL 7 [] true ps ++ [63]) w w' := by
  obtain ⟨p, c, rfl, hp⟩ := h.parts
  have hz := zero27l
  have S0 := (Sb.start w).alloc (.cells #[.int .i64 7, .int .u64 (u 0), .int .u64 (u 1), .int .u64 (u 2), .int .u64 (u 3), .slice p ps.length c] 27)
  have HWk := Lib.hid ((Wk.refl hbd).up hB S0.1)
  have HV := Lib.hid (RV.mono (fun b h => h) (fun z hz hlt => S0.1.block z hlt) h)
  have HR0 := Lib.hid S0.heap
  have hbw := hbd.lt
  have HB := wb_hid B b (m ++ wrL 7 [] true ps) w 63 (by omega) hB
  clear S0 hbd h hp hlen
  go_enter Tryd.func39, Tryd.ntmps39
  go_wp2_with fail
  refine (hW.out _ HWk.out.1 HWk.out.B HV.out).mono ?_
  rintro _ x1 ⟨rfl, hk⟩
  have H1 := Lib.hid (HWk.out.trans hk)
  have g0 : x1.cell? ⟨w.heap.size, 0, none⟩ = some (.int .i64 7) := cell_of_row x1 w.heap.size 0 _ 27 (0, 0) (hk.2.2 w.heap.size _ HR0.out (by simp; omega) (by intro c fz e; cases e))
  clear hk
  go_wp2_with fail
  refine (HB.out _ H1.out).mono ?_
  rintro _ x2 ⟨rfl, hk⟩
  have H2 := Lib.hid hk
  clear hk
  go_wp2
  go_end0
  exact ⟨rfl, H2.out⟩

end Go.Proofs.YtmjojahkbjlcdaaDoor
end
section
/- Package regs: the reader's small steps: what comes next. -/
namespace Go.Proofs.YtmjojahkbjlcdaaDoor
set_option linter.unusedSimpArgs false
set_option linter.unusedVariables false
set_option maxRecDepth 100000
open Go.RowKit

theorem Bd.slice {B b : Nat} {l : List UInt8} {w : World} (h : Bd B b l w) : ∃ a c, w.cell? ⟨b, 1, none⟩ = some (.slice a l.length c) := by
  have key : ∀ p, Lib.BuilderAtF 58 5 B b p (Lib.byteCells l) w → ∃ a c, w.cell? ⟨b, 1, none⟩ = some (.slice a l.length c) := by
    intro p hp
    obtain ⟨_, v, hb, ho, _⟩ := hp
    have hc : w.cell? ⟨b, 1, none⟩ = some v := by rw [Lib.cell_of_heap hb]; rfl
    have hn := byteCells_len l
    rcases ho.2 with ⟨hv, h0⟩ | ⟨g, cap, _, _, hv, _⟩
    · exact ⟨none, 0, by rw [hc, hv, ← hn, h0]⟩
    · exact ⟨_, cap, by rw [hc, hv, hn]⟩
  exact h.elim (key _) (key _)
theorem len_any {B b : Nat} {l : List UInt8} {w : World} (h : Bd B b l w) : Calls Tryd.prog 40 #[.pointer (some ⟨b, 0, none⟩)] w fun e w' => e = .returned (.int .i64 (l.length : Nat)) ∧ w = w' := by
  obtain ⟨a, c, hc⟩ := h.slice
  clear h
  go_enter Tryd.func40, Tryd.ntmps40
  go_wp2
  go_ret
  exact ⟨rfl, rfl⟩
theorem wrb_len (c : UInt8) : (wrb c).length ≤ 2 := by
  unfold wrb
  repeat' split
  all_goals simp
theorem wset_len (f : Nat → Bool) : (wset f).length ≤ 259 := by
  unfold wset
  split
  · simp
  · split
    · have := wrb_len ((mem f 256).headD 0); omega
    · exact pr_len f
mutual
theorem wrT_len : ∀ t : RT, (wrT t).length + 3 ≤ 300 * sz t
  | .mk k u ps => by
    have h0 := wrL_len k ([] : List UInt8) true ps (by simp)
    have h3 := wrL_len 3 ([] : List UInt8) true ps (by simp)
    have h4 := wrL_len 4 ([124] : List UInt8) true ps (by simp)
    have hs := wset_len (fOf u)
    rw [wrT]
    simp only [sz]
    split
    · simp; omega
    · split
      · simp; omega
      · split
        · omega
        · split
          · omega
          · split
            · omega
            · simp only [List.length_append]
              split
              · simp; omega
              · split
                · simp; omega
                · simp; omega
theorem wrL_len (k : Int) (bt : List UInt8) (fs : Bool) : ∀ ts : List RT, bt.length ≤ 1 → (wrL k bt fs ts).length ≤ 300 * szL ts
  | [], _ => by simp [wrL]
  | t :: ts, h => by
    have h1 := wrT_len t
    have h2 := wrL_len k bt false ts h
    rw [wrL]
    simp only [szL, List.length_append]
    have h3 : (bif fs then [] else bt).length ≤ 1 := by cases fs <;> simp [h]
    have h4 : (bif encB k (kindT t) then [40] ++ wrT t ++ [41] else wrT t).length ≤ (wrT t).length + 2 := by cases encB k (kindT t) <;> simp
    omega
end
theorem wrT_0 (u : Nat → Int) (ps : List RT) : wrT (.mk 0 u ps) = [91, 93] := by rw [wrT]; simp
theorem wrT_1 (u : Nat → Int) (ps : List RT) : wrT (.mk 1 u ps) = [] := by rw [wrT]; simp
theorem wrT_2 (u : Nat → Int) (ps : List RT) : wrT (.mk 2 u ps) = wset (fOf u) := by rw [wrT]; simp
theorem wrT_3 (u : Nat → Int) (ps : List RT) : wrT (.mk 3 u ps) = wrL 3 [] true ps := by rw [wrT]; simp
theorem wrT_4 (u : Nat → Int) (ps : List RT) : wrT (.mk 4 u ps) = wrL 4 [124] true ps := by rw [wrT]; simp
theorem wrT_5 (u : Nat → Int) (ps : List RT) : wrT (.mk 5 u ps) = wrL 5 [] true ps ++ [42] := by rw [wrT]; simp
theorem wrT_6 (u : Nat → Int) (ps : List RT) : wrT (.mk 6 u ps) = wrL 6 [] true ps ++ [43] := by rw [wrT]; simp
theorem wrT_7 (u : Nat → Int) (ps : List RT) : wrT (.mk 7 u ps) = wrL 7 [] true ps ++ [63] := by rw [wrT]; simp
set_option maxHeartbeats 1000000 in
theorem wtree_any {B b : Nat} {D : Nat → Prop} (hDB : ∀ b, D b → b < B) : ∀ (n : Nat) (t : RT) {m : List UInt8} {v : Value} {w : World}, dep t ≤ n → wid t ≤ 9223372036854775806 → mayB t = true → okT t → Bd B b m w → B ≤ w.heap.size → m.length + (wrT t).length < 300000 → RV D w t v →
    Calls Tryd.prog 39 #[.pointer (some ⟨b, 0, none⟩), v] w fun e w' => e = .returned (.tuple #[]) ∧ Wk B b (m ++ wrT t) w w'
  | 0, .mk k u ps, m, v, w, hn, _, _, _, _, _, _, _ => by simp [dep] at hn
  | n + 1, .mk k u ps, m, v, w, hn, hw, hm, hok, hbd, hB, hlen, h => by
    have h1 : depL ps ≤ n := by simp only [dep] at hn; omega
    obtain ⟨hl, hw2⟩ := wid_mk hw
    rw [mayB, Bool.and_eq_true, Bool.and_eq_true] at hm
    rw [okT] at hok
    have hI : ∀ i (hi : i < ps.length), WT B b D ps[i] := fun i hi => Lib.hid fun m' v' w' hbd' hB' hlen' hv' =>
      wtree_any hDB n ps[i] (by have := depL_get ps i hi; omega) (hw2 i hi) (mayL_get ps i hi hm.2) (okL_get ps i hi hok.2) hbd' hB' hlen' hv'
    have hml : m.length < 300000 := by omega
    have hk := fits_kind hm.1.1
    have hok1 := hok.1
    have hwl : ∀ bt, m.length + (wrL k bt true ps).length < 300000 → ∀ v w, Bd B b m w → B ≤ w.heap.size → RV D w (.mk k u ps) v → Calls Tryd.prog 52 #[.pointer (some ⟨b, 0, none⟩), v, .string (bs bt)] w fun e w' => e = .returned (.tuple #[]) ∧ Wk B b (m ++ wrL k bt true ps) w w' := fun bt hlen v w hbd hB h => wparts_walk hbd hDB hB hlen hl h hI
    clear hI hok hm hn h1 hw2 hw
    rcases hk with rfl | rfl | rfl | rfl | rfl | ⟨rfl, _⟩ | ⟨rfl, _⟩ | ⟨rfl, _⟩
    · rw [wrT_0]; exact write_0 hbd hB hml h
    · rw [wrT_1]; exact write_1 hbd hB h
    · rw [wrT_2]; exact write_2 (hok1 rfl) hbd hB hml h
    · rw [wrT_3] at hlen ⊢; exact write_3 hDB hbd hB h (Lib.hid fun w' hbd' hB' h' => hwl _ hlen _ _ hbd' hB' h')
    · rw [wrT_4] at hlen ⊢; exact write_4 hDB hbd hB h (Lib.hid fun w' hbd' hB' h' => hwl _ hlen _ _ hbd' hB' h')
    · rw [wrT_5, List.length_append] at hlen
      rw [wrT_5, ← List.append_assoc]
      have hlen2 : m.length + (wrL 5 [] true ps).length < 300000 := by omega
      exact write_5 hDB hbd hB (by rw [List.length_append]; exact hlen2) h (Lib.hid fun w' hbd' hB' h' => hwl _ hlen2 _ _ hbd' hB' h')
    · rw [wrT_6, List.length_append] at hlen
      rw [wrT_6, ← List.append_assoc]
      have hlen2 : m.length + (wrL 6 [] true ps).length < 300000 := by omega
      exact write_6 hDB hbd hB (by rw [List.length_append]; exact hlen2) h (Lib.hid fun w' hbd' hB' h' => hwl _ hlen2 _ _ hbd' hB' h')
    · rw [wrT_7, List.length_append] at hlen
      rw [wrT_7, ← List.append_assoc]
      have hlen2 : m.length + (wrL 7 [] true ps).length < 300000 := by omega
      exact write_7 hDB hbd hB (by rw [List.length_append]; exact hlen2) h (Lib.hid fun w' hbd' hB' h' => hwl _ hlen2 _ _ hbd' hB' h')
/-- What Print answers. -/
def prtP (t : RT) : List UInt8 × Int := if checkE t ≠ 0 then ([], checkE t) else if 256 < (wrT t).length then ([], 3) else (wrT t, 0)
set_option maxHeartbeats 4000000 in
theorem printr_any {D : Nat → Prop} {t : RT} {v : Value} {w : World} (hD : ∀ b, D b → b < w.heap.size) (hw : wid t ≤ 9223372036854775806) (hok : okT t) (h : RV D w t v) :
    Calls Tryd.prog 25 #[v] w fun e w' => e = .returned (.tuple #[.string (bs (prtP t).1), .int .i64 (prtP t).2]) ∧ Below w.heap.size w w' := by
  obtain ⟨k, u, p, n, c, rfl⟩ := h.form2
  have S0 := Lib.hid ((Sb.start w).alloc (.cells #[.int .i64 k, .int .u64 (u 0), .int .u64 (u 1), .int .u64 (u 2), .int .u64 (u 3), .slice p n c] 27))
  have HR := Lib.hid fun w' (hb : Below w.heap.size w w') => (⟨RV.mono (fun b h => h) (fun b hb' hlt => hb.block b hlt) h, fun b hd => Nat.lt_of_lt_of_le (hD b hd) hb.size⟩ : RV D w' t (.agg #[.int .i64 k, .int .u64 (u 0), .int .u64 (u 1), .int .u64 (u 2), .int .u64 (u 3), .slice p n c]) ∧ ∀ b, D b → b < w'.heap.size)
  have HC := Lib.hid fun w' hb => check_any (w := w') (HR.out w' hb).2 hw (HR.out w' hb).1
  have hP : prtP t = if checkE t ≠ 0 then ([], checkE t) else if 256 < (wrT t).length then ([], 3) else (wrT t, 0) := rfl
  by_cases hc : checkE t ≠ 0
  · rw [if_pos hc] at hP
    rw [hP]
    have hne : (checkE t != 0) = true := by rw [bne_iff_ne]; exact hc
    clear h hP hok
    generalize checkE t = E at *
    go_enter Tryd.func25, Tryd.ntmps25
    go_wp2_with fail
    refine (HC.out _ S0.out.1).mono ?_
    rintro _ w1 ⟨rfl, hb⟩
    have S1 := Lib.hid (S0.out.up hb)
    clear hb
    go_wp2
    go_ret2
    exact ⟨rfl, S1.out.1⟩
  · have hc' : checkE t = 0 := by omega
    rw [if_neg hc] at hP
    rw [hc'] at HC
    have hm : mayB t = true ∧ sz t ≤ 512 := by
      unfold checkE at hc'
      split at hc'
      · cases hc'
      · split at hc'
        · cases hc'
        · split at hc'
          · rename_i h _ h2; exact ⟨h2, by omega⟩
          · cases hc'
    have hl := wrT_len t
    have HW : Hid (∀ B b m w1, Below w.heap.size w w1 → Bd B b m w1 → w.heap.size ≤ B → B ≤ w1.heap.size → m = [] → Calls Tryd.prog 39 #[.pointer (some ⟨b, 0, none⟩), .agg #[.int .i64 k, .int .u64 (u 0), .int .u64 (u 1), .int .u64 (u 2), .int .u64 (u 3), .slice p n c]] w1 fun e w' => e = .returned (.tuple #[]) ∧ Wk B b (m ++ wrT t) w1 w') := Lib.hid fun B b m w1 hb hbd hB hB' hm' =>
      wtree_any (fun x hx => Nat.lt_of_lt_of_le (hD x hx) hB) _ t (Nat.le_refl _) hw hm.1 hok hbd hB' (by subst hm'; simp; omega) (HR.out w1 hb).1
    clear h hok hm hl hc hc'
    rw [hP]
    clear hP
    generalize wrT t = R at *
    obtain ⟨A, hA⟩ : ∃ A, (if 256 < R.length then ([], 3) else (R, 0) : List UInt8 × Int) = A := ⟨_, rfl⟩
    rw [hA]
    have HA : Hid ((256 < R.length ∧ A = ([], 3)) ∨ (¬ 256 < R.length ∧ A = (R, 0))) := Lib.hid (by
      by_cases h : 256 < R.length
      · rw [if_pos h] at hA; exact .inl ⟨h, hA.symm⟩
      · rw [if_neg h] at hA; exact .inr ⟨h, hA.symm⟩)
    clear hA
    go_enter Tryd.func25, Tryd.ntmps25
    go_wp2_with fail
    refine (HC.out _ S0.out.1).mono ?_
    rintro _ w1 ⟨rfl, hb⟩
    have S1 := Lib.hid (S0.out.up hb)
    have Q := S1.out
    have hlt := Q.lt
    have v0 := Q.cell 0
    have v1 := Q.cell 1
    have v2 := Q.cell 2
    have v3 := Q.cell 3
    have v4 := Q.cell 4
    have v5 := Q.cell 5
    go_wp2_with fail
    have B0 := Bd.fresh w1
    have hb1 : Below w.heap.size w (w1.alloc (.cells #[.pointer none, .slice none 0 0] 58)) := Q.1.alloc Q.1.size _
    have hsz : w1.heap.size ≤ (w1.alloc (.cells #[.pointer none, .slice none 0 0] 58)).heap.size := by simp
    refine (HW.out w1.heap.size w1.heap.size [] _ hb1 B0 Q.1.size hsz rfl).mono ?_
    rintro _ w2 ⟨rfl, hk⟩
    rw [List.nil_append] at hk
    have H2 := Lib.hid hk.1
    have HB2 := Lib.hid (hb1.trans (hk.2.1.mono Q.1.size))
    have hB2 := hk.B
    have hw1 := Q.1.size
    clear hk hb1 B0 hsz v0 v1 v2 v3 v4 v5 hlt Q hb S1 HW HR HC S0
    go_wp2_with fail
    refine (len_any H2.out).mono ?_
    rintro _ _ ⟨rfl, rfl⟩
    rcases HA.out with ⟨hlen, rfl⟩ | ⟨hlen, rfl⟩
    · have hgt : (256 : Int) < ((R.length : Nat) : Int) := by omega
      go_wp2_with fail
      go_ret2
      exact ⟨rfl, HB2.out⟩
    · have hgt : ¬ (256 : Int) < ((R.length : Nat) : Int) := by omega
      go_wp2_with fail
      refine (H2.out.string hB2).mono ?_
      rintro _ w3 ⟨rfl, hb⟩
      have H3 := Lib.hid (HB2.out.trans (hb.mono (by omega)))
      clear hb
      go_wp2
      go_ret2
      exact ⟨rfl, H3.out⟩
end Go.Proofs.YtmjojahkbjlcdaaDoor
end
section
namespace Go.Proofs.YtmjojahkbjlcdaaDoor
set_option linter.unusedSimpArgs false
set_option linter.unusedVariables false
set_option maxRecDepth 100000
open Go.RowKit

/- The document's sign, dot and single. -/
theorem sign5_any (c : UInt8) (w : World) : Calls Tryd.prog 80 #[.int .u8 c.toNat] w fun e w' => e = .returned (.bool (sgs.contains c)) ∧ w = w' := by
  cases h : sgs.contains c with
  | true =>
    have hc : c = 46 ∨ c = 42 ∨ c = 43 ∨ c = 63 ∨ c = 124 ∨ c = 40 ∨ c = 41 ∨ c = 91 ∨ c = 93 ∨ c = 92 := by
      simpa only [sgs, List.contains_cons, List.contains_nil, Bool.or_false, Bool.or_eq_true, beq_iff_eq] using h
    clear h
    rcases hc with rfl | rfl | rfl | rfl | rfl | rfl | rfl | rfl | rfl | rfl
    all_goals
      go_enter Tryd.func80, Tryd.ntmps80
      go_wp2
      go_ret
      exact ⟨rfl, rfl⟩
  | false =>
    have ne : ∀ k : UInt8, sgs.contains k = true → c ≠ k := fun k hk e => by rw [e, hk] at h; cases h
    have e46 : ((c.toNat : Int) == 46) = false := neqU c 46 (by omega) (ne 46 (by decide))
    have e42 : ((c.toNat : Int) == 42) = false := neqU c 42 (by omega) (ne 42 (by decide))
    have e43 : ((c.toNat : Int) == 43) = false := neqU c 43 (by omega) (ne 43 (by decide))
    have e63 : ((c.toNat : Int) == 63) = false := neqU c 63 (by omega) (ne 63 (by decide))
    have e124 : ((c.toNat : Int) == 124) = false := neqU c 124 (by omega) (ne 124 (by decide))
    have e40 : ((c.toNat : Int) == 40) = false := neqU c 40 (by omega) (ne 40 (by decide))
    have e41 : ((c.toNat : Int) == 41) = false := neqU c 41 (by omega) (ne 41 (by decide))
    have e91 : ((c.toNat : Int) == 91) = false := neqU c 91 (by omega) (ne 91 (by decide))
    have e93 : ((c.toNat : Int) == 93) = false := neqU c 93 (by omega) (ne 93 (by decide))
    have e92 : ((c.toNat : Int) == 92) = false := neqU c 92 (by omega) (ne 92 (by decide))
    clear h ne
    go_enter Tryd.func80, Tryd.ntmps80
    go_wp2
    go_ret
    exact ⟨rfl, rfl⟩
set_option maxHeartbeats 4000000 in
set_option maxRecDepth 100000 in
theorem dot_any (w : World) : Calls Tryd.prog 76 #[] w fun e w' => e = .returned (vv (wf inlF)) ∧ Below w.heap.size w w' := by
  have S0 := Lib.hid ((((Sb.start w).alloc (.cells z4 24))).alloc (.cells (fl fun _ => false) 94))
  have hz := zero27
  have hset := Lib.hid fun w => rset_any inlF w
  go_enter Tryd.func76, Tryd.ntmps76
  go_wp2
  go_loopw [2] (fun i wr => ∃ k : Nat, k ≤ 256 ∧ i = .int .i64 k ∧ Hid (Sb w wr [(w.heap.size + 1, .cells (fl (lowF inlF k)) 94), (w.heap.size, .cells z4 24)])) (fun i _ => 256 - (intOf i).toNat)
  case atStart => exact ⟨0, by omega, rfl, by simpa [lowF_zero] using S0⟩
  case round =>
    obtain ⟨k, hk, rfl, HS⟩ := hrel
    clear S0
    by_cases hlt : k < 256
    · have hlt' : (k : Int) < 256 := by omega
      have hv : ((k : Int) != 10) = inlF k := by
        unfold inlF ofL
        rw [Bool.eq_iff_iff]
        simp
        omega
      have hls := Lib.hid (lowF_set inlF k)
      generalize inlF k = v at hv hls
      have c1 := HS.out.flag k hlt
      have f1 := HS.out.free k
      have z1 := HS.out.lt
      go_wp2_with fail
      go_roundw
      case rel => exact ⟨k + 1, by omega, by go_num, Lib.hid (by rw [← hls.out]; exact HS.out.set _ (by simp <;> omega))⟩
      case measure => simp [intOf]; omega
    · obtain rfl : k = 256 := by omega
      clear hlt hk
      rw [lowF_all] at HS
      have h2 := Lib.hid HS.out.heap
      go_wp2_with (refine wpList_load_row rfl 94 (.tmp 1) rfl (w.heap.size + 1) rfl 94 (fl inlF) (0, 0) _ h2.out Tryd.underlying94 rfl (fsize27 inlF) ?_)
      refine (hset.out _).mono ?_
      rintro _ w2 ⟨rfl, hb⟩
      have S2 := Lib.hid ((HS.out.up hb).sub (M := [(w.heap.size, .cells z4 24)]) (by simp))
      have h3 := Lib.hid S2.out.heap
      clear hb
      go_wp2_with (refine wpList_store_row rfl 24 (.tmp 0) (.tmp 12) rfl w.heap.size (vc (wf inlF)) rfl rfl 24 _ h3.out (i24v (wf inlF)) rfl (vc_one (wf inlF)) ?_)
      have hE := S2.out.setRow (cs' := vc (wf inlF)) (by simp)
      exact bodyPost_ret (v := vv (wf inlF)) (results_cell_row rfl _ _ w.heap.size 24 (vc (wf inlF)) (0, 0) _ rfl hE.heap Tryd.underlying24 rfl (i24v (wf inlF))) rfl ⟨rfl, hE.1⟩
theorem conv_one (y : World) (c : Nat) (hc : c < 256) : (convert 56 9 (.slice (some ⟨y.heap.size, 0, none⟩) 1 1)).run Tryd.prog (y.alloc (.cells #[.int .u8 c] 5)) = .ok (.string (bs [UInt8.ofNat c])) (y.alloc (.cells #[.int .u8 c] 5)) := by
  have hcc : (UInt8.ofNat c).toNat = c := ofNat_toNat c hc
  have h := run_convert_bytes_back (y.alloc (.cells #[.int .u8 c] 5)) 56 9 5 ⟨y.heap.size, 0, none⟩ 1 [UInt8.ofNat c] Tryd.underlying56 Tryd.underlying5 Tryd.underlying9 (Lib.bytes_of_row (heap_alloc_last y _) (by simp [Lib.byteCells, hcc]))
  exact h
end Go.Proofs.YtmjojahkbjlcdaaDoor
end
