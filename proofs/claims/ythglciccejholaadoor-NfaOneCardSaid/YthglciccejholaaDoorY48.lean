/- Texts of package regs, one behind the other. -/
import Derived.Test.YthglciccejholaaDoorProg
import Derived.Test.YthglciccejholaaDoorY47
import Derived.WalkKit
import Derived.WalkLawsBesides
import Derived.WalkSpells
import Derived.Outline
import Derived.Lib.Walk
import Derived.Lib.Hide
import Derived.Lib.Slices
import Derived.Lib.Strings
import Derived.RegionTactic
import Derived.LoopTactic
import Derived.Below
import Derived.IntWalk
import Derived.Deep.QuietTactic
import Derived.BigQuiet
import Derived.Deep.MidRow
import Derived.Maps.AppendAt
import Derived.Laws.Rows
import Derived.Laws.Tables
import Derived.Deep.WholeRow
import Derived.Deep.Cut
import Derived.Deep.CutRange
import Derived.Lib.SliceRun
import Derived.Laws.MakeOwn
import Derived.Deep.RegionLaw
import Derived.Deep.RegionLawGrows
import Derived.Deep.RegionHeld3
import Derived.RegionCalls
import Derived.Deep.RegionWith
import Derived.Deep.Light
import Derived.Laws.CopyOwn
import Derived.Laws.ResultCell
section
/- Package nfa. -/
namespace Go.Proofs.YthglciccejholaaDoor
set_option linter.unusedSimpArgs false
set_option linter.unusedVariables false
set_option maxRecDepth 100000
open Go.RowKit
/- NfaMore: what is told of rules behind rules; the state of its walk. -/
theorem frees_mem : ∀ {ss : List Nst} {s : Nst}, s ∈ ss → s.fr.length ≤ frees ss
  | x :: r, s, h => by
    rw [frees]
    rcases List.mem_cons.1 h with rfl | h
    · omega
    · have := frees_mem h; omega
mutual
/-- A pattern's words are words. -/
def okT : RT → Prop
  | .mk k u ps => okW u ∧ okTL ps
def okTL : List RT → Prop
  | [] => True
  | t :: ts => okT t ∧ okTL ts
end
theorem ckL_iff : ∀ {ts : List RT}, ckL ts = 0 ↔ ∀ t ∈ ts, checkE t = 0
  | [] => by simp [ckL]
  | a :: r => by
    rw [ckL]
    constructor
    · intro h
      by_cases ha : checkE a = 0
      · rw [if_pos ha] at h
        exact fun t ht => (List.mem_cons.1 ht).elim (fun e => e ▸ ha) (ckL_iff.1 h t)
      · rw [if_neg ha] at h; exact absurd h ha
    · intro h
      rw [if_pos (h a (List.mem_cons_self ..))]
      exact ckL_iff.2 fun t ht => h t (List.mem_cons_of_mem _ ht)
theorem refE_iff {ts : List RT} : refE ts = 0 ↔ ts.length ≤ 48 ∧ (∀ t ∈ ts, checkE t = 0) ∧ szL ts ≤ 2047 ∧ ts.all msF = true := by
  unfold refE
  rw [← ckL_iff]
  by_cases h1 : 48 < ts.length
  · rw [if_pos h1]; constructor
    · intro h; cases h
    · intro h; omega
  rw [if_neg h1]
  by_cases h2 : ckL ts = 0
  · rw [if_pos h2]
    by_cases h3 : 2047 < szL ts
    · rw [if_pos h3]; constructor
      · intro h; cases h
      · intro h; omega
    rw [if_neg h3]
    by_cases h4 : ts.all msF = true
    · rw [if_pos h4]; exact ⟨fun _ => ⟨by omega, h2, by omega, h4⟩, fun _ => rfl⟩
    · rw [if_neg h4]; constructor
      · intro h; cases h
      · intro h; exact absurd h.2.2.2 h4
  · rw [if_neg h2]; exact ⟨fun h => absurd h h2, fun h => absurd h.2.1 h2⟩
theorem refE_app {a b : List RT} (ha : szL a ≤ 100) (hb : szL b ≤ 100) : refE (a ++ b) = 0 ↔ refE a = 0 ∧ refE b = 0 ∧ a.length + b.length ≤ 48 := by
  rw [refE_iff, refE_iff, refE_iff, szL_app, List.length_append, List.all_append, Bool.and_eq_true]
  constructor
  · rintro ⟨h1, h2, h3, h4⟩
    exact ⟨⟨by omega, fun t ht => h2 t (List.mem_append_left _ ht), by omega, h4.1⟩, ⟨by omega, fun t ht => h2 t (List.mem_append_right _ ht), by omega, h4.2⟩, h1⟩
  · rintro ⟨⟨h1, h2, h3, h4⟩, ⟨g1, g2, g3, g4⟩, h5⟩
    exact ⟨h5, fun t ht => (List.mem_append.1 ht).elim (h2 t) (g2 t), by omega, h4, g4⟩
mutual
theorem kF : ∀ (t : RT) (b : Int) (n : Nat), okT t → ∀ s ∈ (layF t b n).1, okW s.u
  | .mk kd u ps, b, n, ho => by
    rw [okT] at ho
    have hZ : okW uZ := fun i => by simp [uZ]
    have hA := kA ps b n ho.2
    have hC := kC ps b n ho.2
    have hC2 := kC ps (n : Nat) (n + 1) ho.2
    rw [layF]
    repeat' split
    all_goals intro s hs
    all_goals try simp only [List.mem_append, List.mem_cons, List.not_mem_nil, or_false] at hs
    · subst hs; exact ho.1
    · exact hC s hs
    · rcases hs with hs | rfl
      · exact hA s hs
      · exact hZ
    · rcases hs with rfl | hs
      · exact hZ
      · exact hC2 s hs
    · rcases hs with rfl | hs
      · exact hZ
      · exact hC2 s hs
    · rcases hs with hs | rfl
      · exact hC s hs
      · exact hZ
    · subst hs; exact hZ
theorem kC : ∀ (ps : List RT) (b : Int) (n : Nat), okTL ps → ∀ s ∈ (layC ps b n).1, okW s.u
  | [], b, n, _ => by rw [layC]; simp
  | p :: r, b, n, ho => by
    rw [okTL] at ho
    rw [layC]
    exact fun s hs => (List.mem_append.1 hs).elim (kC r b n ho.2 s) (kF p _ _ ho.1 s)
theorem kA : ∀ (ps : List RT) (b : Int) (n : Nat), okTL ps → ∀ s ∈ (layA ps b n).1, okW s.u
  | [], b, n, _ => by rw [layA]; simp
  | p :: r, b, n, ho => by
    rw [okTL] at ho
    rw [layA]
    exact fun s hs => (List.mem_append.1 hs).elim (kF p _ _ ho.1 s) (kA r b _ ho.2 s)
end
theorem kL : ∀ (ts : List RT) (i n : Nat), (∀ t ∈ ts, okT t) → ∀ s ∈ (foldL i ts n).1, okW s.u
  | [], i, n, _ => by rw [foldL]; simp
  | t :: r, i, n, ho => by
    rw [foldL]
    have hZ : okW uZ := fun i => by simp [uZ]
    intro s hs
    rcases List.mem_append.1 hs with hs | hs
    · rcases List.mem_cons.1 hs with rfl | hs
      · exact hZ
      · exact kF t _ _ (ho t (List.mem_cons_self ..)) s hs
    · exact kL r _ _ (fun x hx => ho x (List.mem_cons_of_mem _ hx)) s hs
theorem ofF_okW {ts : List RT} (ho : ∀ t ∈ ts, okT t) : ∀ s ∈ ofF ts, okW s.u := by
  have hZ : okW uZ := fun i => by simp [uZ]
  rw [ofF_L]
  intro s hs
  rcases List.mem_append.1 hs with hs | hs
  · exact kL ts 0 0 ho s hs
  · simp only [List.mem_singleton] at hs; subst hs; exact hZ
theorem ofF_fr {ts : List RT} (hlen : ts.length ≤ 48) (hs : szL ts ≤ 2047) : ∀ s ∈ ofF ts, s.fr.length ≤ 9223372036854775806 := fun s h => by
  have h1 := foldL_len ts 0 0
  have h2 : frees (ofF ts) ≤ 16384 := by rw [ofF_L, frees_app]; simp [frees]; omega
  have := frees_mem h
  omega
/-- What Of yields. -/
def stR (ts : List RT) : Int := if refE ts = 0 then (((ofF ts).length - 1 : Nat) : Int) else 0
def ssR (ts : List RT) : List Nst := if refE ts = 0 then ofF ts else []
theorem of_full {D : Nat → Prop} {w : World} {ts : List RT} {q : Option Addr} {f : Nat} (hD : ∀ b, D b → b < w.heap.size) (hR : RuV D w ts (.slice q ts.length f)) (hln : ts.length ≤ 9223372036854775806) (hwid : ∀ t ∈ ts, wid t ≤ 9223372036854775806) :
    Calls Tryd.prog 13 #[.slice q ts.length f] w fun e w' => (∃ sq c, e = .returned (.tuple #[.agg #[.int .i64 (stR ts), .slice sq (ssR ts).length c], .int .i64 (refE ts)]) ∧ SV (fun b => w.heap.size ≤ b ∧ b < w'.heap.size) w' (ssR ts) (.slice sq (ssR ts).length c)) ∧ Below w.heap.size w w' := by
  have HREF : Hid (∀ z, Below w.heap.size w z → Calls Tryd.prog 38 #[.slice q ts.length f] z fun e z' => e = .returned (.int .i64 (refE ts)) ∧ Below z.heap.size z z') := Lib.hid fun z hb => refused_any (fun b h => Nat.lt_of_lt_of_le (hD b h) hb.size) (hR.mono (fun b h => h) (fun b h _ => hb.block b (hD b h))) hln hwid
  unfold stR ssR
  by_cases h : refE ts = 0
  · rw [if_pos h, if_pos h]
    obtain ⟨h1, h2, h3, h4⟩ := refE_iff.1 h
    rw [h] at HREF ⊢
    refine (of_any hD hR h2 h1 h3 HREF).mono ?_
    rintro e w' ⟨⟨sq, c, he, hsv, _⟩, hb⟩
    exact ⟨⟨sq, c, he, hsv⟩, hb⟩
  · rw [if_neg h, if_neg h]
    refine (of_err (by simpa using h) HREF).mono ?_
    rintro e w' ⟨he, hb⟩
    exact ⟨⟨none, 0, he, ⟨none, 0, rfl, fun h => absurd rfl h⟩⟩, hb⟩
/-- Boxes, lists of states and of numbers that lie. -/
structure NM (w y : World) (L : List (Nat × Obj)) (S : List (List Nst × Value)) (I : List (List Int × Value)) : Prop where
  sb : Sb w y L
  sv : ∀ s ∈ S, SV (fun b => b < y.heap.size) y s.1 s.2
  iv : ∀ s ∈ I, IV (fun b => b < y.heap.size) y s.1 s.2
theorem NM.start {w y : World} (hb : Below w.heap.size w y) : NM w y [] [] [] := ⟨⟨hb, by simp⟩, by simp, by simp⟩
theorem NM.up {w y z : World} {L : List (Nat × Obj)} {S : List (List Nst × Value)} {I : List (List Int × Value)} (h : NM w y L S I) (hb : Below y.heap.size y z) : NM w z L S I :=
  ⟨h.sb.up hb, fun s hs => (h.sv s hs).mono (fun b h => Nat.lt_of_lt_of_le h hb.size) (fun b h _ => hb.block b h), fun s hs => (h.iv s hs).mono (fun b h => Nat.lt_of_lt_of_le h hb.size) (fun b h _ => hb.block b h)⟩
theorem NM.box {w y : World} {L : List (Nat × Obj)} {S : List (List Nst × Value)} {I : List (List Int × Value)} (h : NM w y L S I) (o : Obj) : NM w (y.alloc o) ((y.heap.size, o) :: L) S I := by
  have h2 := h.up ((Below.refl y.heap.size y).alloc (Nat.le_refl _) o)
  exact ⟨h.sb.alloc o, h2.sv, h2.iv⟩
theorem NM.addS {w y : World} {L : List (Nat × Obj)} {S : List (List Nst × Value)} {I : List (List Int × Value)} (h : NM w y L S I) {l : List Nst} {v : Value} (hs : SV (fun b => b < y.heap.size) y l v) : NM w y L ((l, v) :: S) I :=
  ⟨h.sb, fun s hm => (List.mem_cons.1 hm).elim (fun e => e ▸ hs) (h.sv s), h.iv⟩
theorem NM.addI {w y : World} {L : List (Nat × Obj)} {S : List (List Nst × Value)} {I : List (List Int × Value)} (h : NM w y L S I) {l : List Int} {v : Value} (hs : IV (fun b => b < y.heap.size) y l v) : NM w y L S ((l, v) :: I) :=
  ⟨h.sb, h.sv, fun s hm => (List.mem_cons.1 hm).elim (fun e => e ▸ hs) (h.iv s)⟩
theorem NM.cell {w y : World} {L : List (Nat × Obj)} {S : List (List Nst × Value)} {I : List (List Int × Value)} (h : NM w y L S I) {b : Nat} {cs : Array Value} {t : TypeId} (hm : (b, Obj.cells cs t (0, 0)) ∈ L) (i : Nat) : y.cell? ⟨b, i, none⟩ = cs[i]? := cell_of_row y b i _ t (0, 0) (h.sb.2 _ hm).2
theorem NM.bel {w y : World} {L : List (Nat × Obj)} {S : List (List Nst × Value)} {I : List (List Int × Value)} (h : NM w y L S I) : Below w.heap.size w y := h.sb.1
end Go.Proofs.YthglciccejholaaDoor
end
section
/- Package nfa. -/
namespace Go.Proofs.YthglciccejholaaDoor
set_option linter.unusedSimpArgs false
set_option linter.unusedVariables false
set_option maxRecDepth 100000
open Go.RowKit
/- NfaMore: what is accepted, and lists as sources. -/
theorem acc_full {w : World} {ts : List RT} {q : Option Addr} {c : Nat} {s : ByteArray} (hE : refE ts = 0) (ho : ∀ t ∈ ts, okT t) (hSV : SV (fun b => b < w.heap.size) w (ssR ts) (.slice q (ssR ts).length c)) (hs : s.size ≤ 9223372036854775806) :
    Calls Tryd.prog 15 #[.agg #[.int .i64 (stR ts), .slice q (ssR ts).length c], .string s] w fun e w' => (∃ p c, e = .returned (.tuple #[.slice p (accT ts s.data.toList).length c, .int .i64 0]) ∧ IV (fun b => b < w'.heap.size) w' (accT ts s.data.toList) (.slice p (accT ts s.data.toList).length c)) ∧ Below w.heap.size w w' := by
  obtain ⟨h1, h2, h3, h4⟩ := refE_iff.1 hE
  unfold ssR at hSV ⊢
  unfold stR
  rw [if_pos hE] at hSV
  rw [if_pos hE, if_pos hE]
  obtain ⟨hc, hl⟩ := ofF_chk h1 h3
  have h := acc_ok (w := w) (st := (((ofF ts).length - 1 : Nat) : Int)) (s := s) (fun b h => h) hSV (ofF_fr h1 h3) (by omega) (ofF_okW ho) hs hc
  rw [ofF_acc h1 h3] at h
  unfold nV at h
  refine h.mono ?_
  rintro e w' ⟨⟨v, he, hv⟩, hb⟩
  obtain ⟨p, c', rfl, _⟩ := id hv
  exact ⟨⟨p, c', he, hv.mono (fun b h => h.2) (fun b _ _ => rfl)⟩, hb⟩
end Go.Proofs.YthglciccejholaaDoor
end
